/-
  Package expr: attempt of a value; Eval.
-/

