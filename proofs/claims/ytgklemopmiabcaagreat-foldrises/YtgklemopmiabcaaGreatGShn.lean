/-
  The document's example.
-/
