/-
  Keys that are places.
-/
