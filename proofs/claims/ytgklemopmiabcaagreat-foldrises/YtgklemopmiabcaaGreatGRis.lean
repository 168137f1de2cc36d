/-
  Lists that rise.
-/
