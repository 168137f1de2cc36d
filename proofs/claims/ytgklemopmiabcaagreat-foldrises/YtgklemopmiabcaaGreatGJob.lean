/-
  Jobs that are put.
-/
