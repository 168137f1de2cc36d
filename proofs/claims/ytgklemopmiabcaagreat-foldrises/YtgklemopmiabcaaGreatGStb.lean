/-
  Elements that are changed.
-/
