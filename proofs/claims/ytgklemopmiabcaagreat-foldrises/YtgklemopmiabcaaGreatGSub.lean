/-
  Subscriptions that are put.
-/
