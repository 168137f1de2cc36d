/-
  Processes that are put.
-/
