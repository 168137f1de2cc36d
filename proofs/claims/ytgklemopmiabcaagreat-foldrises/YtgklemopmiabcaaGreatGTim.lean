/-
  Timers that are put.
-/
