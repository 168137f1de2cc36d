/-
  What is done to a place, and to a message.
-/
