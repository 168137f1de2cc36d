/-
  Messages that are put.
-/
