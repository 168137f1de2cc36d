/-
  Package expr: what a part comes to.
-/

