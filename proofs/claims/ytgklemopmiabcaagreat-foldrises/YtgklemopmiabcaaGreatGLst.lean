/-
  Places that are put.
-/
