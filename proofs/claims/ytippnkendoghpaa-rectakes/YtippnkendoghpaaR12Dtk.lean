/-
  The document's Take: the record of bytes, or why there is none.
-/
import Derived.Test.YtippnkendoghpaaR12Tke
import Derived.Test.YtippnkendoghpaaR12Dmy
import Derived.Test.YtippnkendoghpaaR12Dtv
namespace Go.Proofs.Ytippnkendoghpaa.r12
open Go.RowKit Go.Shelf Go.Sort
open Go.Lib hiding intOf

def td : Int × Int × Int := (8192, 8192, 32)
/-- what stands while the document reads: the result's block, the reader's behind it, the record's behind that -/
structure Dr (w W : World) (cs : Array Value) : Prop where
  bel : Below w.heap.size w W
  res : Rx W w.heap.size X0
  rc : Rx W (w.heap.size + 1 + 1) cs
structure Dq (w W : World) (l : List UInt8) (e : Nat) (cs : Array Value) : Prop where
  dr : Dr w W cs
  rd : Rd W (w.heap.size + 1) l e
theorem Dr.but {w W W1 : World} {cs : Array Value} (h : Dr w W cs) (hb : But (w.heap.size + 1) W W1) : Dr w W1 cs :=
  ⟨h.bel.trans (hb.below (by omega) (by have := h.rc.lt; omega)), h.res.but hb (by omega), h.rc.but hb (by omega)⟩
theorem Dr.set {w W : World} {cs : Array Value} (h : Dr w W cs) (k : Nat) (v : Value) : Dr w (W.setCell ⟨w.heap.size + 1 + 1, k, none⟩ v) (cs.setIfInBounds k v) := by
  have hc : Ch (fun b => b = w.heap.size + 1 + 1) W (W.setCell ⟨w.heap.size + 1 + 1, k, none⟩ v) := (Ch.refl (fun b => b = w.heap.size + 1 + 1) W).setCell ⟨w.heap.size + 1 + 1, k, none⟩ v (fun _ => rfl)
  exact ⟨h.bel.trans (hc.below (by have := h.rc.lt; omega) (fun k hk e => by omega)), hc.obj h.res (fun e => by omega), heap_setCell_same W (w.heap.size + 1 + 1) k _ _ v h.rc⟩
theorem Dr.up {w W W1 : World} {cs : Array Value} (h : Dr w W cs) (hb : Below W.heap.size W W1) : Dr w W1 cs := ⟨bel_of h.bel hb (Nat.le_refl _), h.res.up hb, h.rc.up hb⟩
theorem Dq.step {w W W1 : World} {l l2 : List UInt8} {e e2 : Nat} {cs : Array Value} (h : Dq w W l e cs) (hb : But (w.heap.size + 1) W W1) (hd : Rd W1 (w.heap.size + 1) l2 e2) : Dq w W1 l2 e2 cs := ⟨h.dr.but hb, hd⟩
theorem Dq.set {w W : World} {l : List UInt8} {e : Nat} {cs : Array Value} (h : Dq w W l e cs) (k : Nat) (v : Value) : Dq w (W.setCell ⟨w.heap.size + 1 + 1, k, none⟩ v) l e (cs.setIfInBounds k v) := ⟨h.dr.set k v, h.rd.set (by omega) _ _⟩
theorem Dq.up {w W W1 : World} {l : List UInt8} {e : Nat} {cs : Array Value} (h : Dq w W l e cs) (hb : Below W.heap.size W W1) : Dq w W1 l e cs := ⟨h.dr.up hb, h.rd.up hb⟩
theorem npD (a0 a1 a2 a3 a4 a5 a6 a7 a8 : Int) (s9 s10 s11 : ByteArray) (a : Option Addr) (n c : Nat) : Np #[.int .i64 a0, .int .i64 a1, .int .u64 a2, .int .i64 a3, .int .u64 a4, .int .u64 a5, .int .u64 a6, .int .i64 a7, .int .i64 a8, .string s9, .string s10, .string s11, .slice a n c] := fun o t n h1 h2 => by
  match o with
  | 0 => first | (simp at h1; done) | (simp at h2; done)
  | 1 => first | (simp at h1; done) | (simp at h2; done)
  | 2 => first | (simp at h1; done) | (simp at h2; done)
  | 3 => first | (simp at h1; done) | (simp at h2; done)
  | 4 => first | (simp at h1; done) | (simp at h2; done)
  | 5 => first | (simp at h1; done) | (simp at h2; done)
  | 6 => first | (simp at h1; done) | (simp at h2; done)
  | 7 => first | (simp at h1; done) | (simp at h2; done)
  | 8 => first | (simp at h1; done) | (simp at h2; done)
  | 9 => first | (simp at h1; done) | (simp at h2; done)
  | 10 => first | (simp at h1; done) | (simp at h2; done)
  | 11 => first | (simp at h1; done) | (simp at h2; done)
  | 12 => first | (simp at h1; done) | (simp at h2; done)
  | o + 13 => simp at h1
theorem dq_new (w : World) (s : List UInt8) : Dq w (((w.alloc (.cells #[.int .i64 0, .int .i64 0, .int .u64 0, .int .i64 0, .int .u64 0, .int .u64 0, .int .u64 0, .int .i64 0, .int .i64 0, .string ⟨#[]⟩, .string ⟨#[]⟩, .string ⟨#[]⟩, .slice none 0 0] 25)).alloc (.cells #[.string (S s), .int .i64 0] 60)).alloc (.cells #[.int .i64 0, .int .i64 0, .int .u64 0, .int .i64 0, .int .u64 0, .int .u64 0, .int .u64 0, .int .i64 0, .int .i64 0, .string ⟨#[]⟩, .string ⟨#[]⟩, .string ⟨#[]⟩, .slice none 0 0] 25)) s 0 #[.int .i64 0, .int .i64 0, .int .u64 0, .int .i64 0, .int .u64 0, .int .u64 0, .int .u64 0, .int .i64 0, .int .i64 0, .string ⟨#[]⟩, .string ⟨#[]⟩, .string ⟨#[]⟩, .slice none 0 0] :=
  ⟨⟨(((Below.refl _ w).alloc (Nat.le_refl _) _).alloc (by simp) _).alloc (by simp <;> omega) _, rx_alloc (rx_alloc (Rx.new w _) _) _, by have h := Rx.new ((w.alloc (.cells #[.int .i64 0, .int .i64 0, .int .u64 0, .int .i64 0, .int .u64 0, .int .u64 0, .int .u64 0, .int .i64 0, .int .i64 0, .string ⟨#[]⟩, .string ⟨#[]⟩, .string ⟨#[]⟩, .slice none 0 0] 25)).alloc (.cells #[.string (S s), .int .i64 0] 60)) #[.int .i64 0, .int .i64 0, .int .u64 0, .int .i64 0, .int .u64 0, .int .u64 0, .int .u64 0, .int .i64 0, .int .i64 0, .string ⟨#[]⟩, .string ⟨#[]⟩, .string ⟨#[]⟩, .slice none 0 0]; simpa using h⟩, ⟨by go_simp, by go_simp, by go_simp, by go_simp, by simp <;> omega⟩⟩
end Go.Proofs.Ytippnkendoghpaa.r12
