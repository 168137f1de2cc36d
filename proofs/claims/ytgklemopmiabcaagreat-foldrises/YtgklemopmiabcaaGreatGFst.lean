/-
  The first one of a key.
-/
