/-
  Messages, and places, that are taken away.
-/
