/-
  What is sent, and what has missed.
-/
