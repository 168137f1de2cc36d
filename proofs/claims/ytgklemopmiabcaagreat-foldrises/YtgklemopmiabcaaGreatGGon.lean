/-
  Instances that are gone.
-/
