/-
  What came, put.
-/
