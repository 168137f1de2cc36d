/-
  Places and messages that are others.
-/
