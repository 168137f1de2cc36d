/-
  Package seglog's Open of every disk.
-/
import Derived.Test.YteifkkceldlfnaaGreatDoorG6Open0
import Derived.Test.YteifkkceldlfnaaGreatDoorG6LdP
import Derived.Test.YteifkkceldlfnaaGreatDoorG6Set
namespace Go.Proofs.YteifkkceldlfnaaGreatDoor
open Go.RowKit Go.Shelf Go.Sort
open Go.Lib hiding intOf

/-- the log of segments that were loaded -/
def lgOf (pre : ByteArray) (sz : Nat) (segs : List Sg) : Lg := ⟨pre, sz, segs, ldNx segs, ldNx segs⟩
theorem lgOf_ok {pre : ByteArray} {sz : Nat} {fs : List (Nat × List UInt8)} {segs : List Sg} (hp : isP pre = true) (h1 : 64 ≤ sz) (h2 : sz ≤ 65536) (g : Lgd fs segs) : Ok (lgOf pre sz segs) := by
  unfold isP at hp
  simp only [Bool.and_eq_true, decide_eq_true_eq] at hp
  refine ⟨g.cn, fun s hs => (g.each s hs).1, ?_, fun _ => rfl, Nat.le_refl _, ⟨h1, h2⟩, hp.1, fun s hs => (g.each s hs).2.2.1, fun s hs => (g.each s hs).2.2.2⟩
  show 1 ≤ ldNx segs ∧ ldNx segs ≤ 1099511627777
  unfold ldNx
  cases hl : segs.getLast? with
  | none => exact ⟨Nat.le_refl _, by decide⟩
  | some s =>
    obtain ⟨e1, e2, -⟩ := g.each s (List.mem_of_getLast? hl)
    exact ⟨by show 1 ≤ s.next; unfold Sg.next; omega, e2⟩
/-- what Open comes to: its answer, the segments, the disk -/
def gOpn (pre : ByteArray) (ps : List Nat) (st : Ab) : Int × List Sg × Ab := match ldG (ps.map (flN st pre)) with
  | none => (3, [], st)
  | some (segs, tn) => match segs.getLast? with
    | none => (0, [], st)
    | some s => ((stl st (nam pre s.first) s.size tn).1, segs, (stl st (nam pre s.first) s.size tn).2)
section
variable {w w1 w6 W : World} {B B1 d lb sz : Nat} {es : List Le} {p : Int} {off : Bool} {mo : Option Nat} {pre : ByteArray} {lg : Lg} {ws : List Sv} {segs : List Sg} {sl : Value} {st' : Ab}
theorem Lw.lower (h : Lw w B1 lb d lg ws sl) (hB : B ≤ B1) : Lw w B lb d lg ws sl :=
  ⟨h.hd, row_low h.row hB, fun v hv => ⟨(h.sw v hv).hd, row_low (h.sw v hv).row hB, Nat.le_trans hB (h.sw v hv).low⟩, h.apart, h.segs, Nat.le_trans hB h.low⟩
def logC (d : Nat) (pre : ByteArray) (sz : Nat) (sl : Value) : Obj := .cells #[.pointer (some ⟨d, 0, none⟩), .string pre, .int .i64 (sz : Int), sl, .int .u64 1, .int .u64 0] 82 (0, 0)
theorem opn_made (hr : W.ownsRow B1 83 1 sl ws.length (ws.map ptr)) (hs : ∀ v ∈ ws, Sw W B1 pre v) (ha : ws.Pairwise SApart) (hB : B1 ≤ W.heap.size) : Lw (W.alloc (logC d pre sz sl)) B1 W.heap.size d ⟨pre, sz, ws.map Sv.sg, 1, 0⟩ ws sl :=
  have hb : Below W.heap.size W (W.alloc (logC d pre sz sl)) := (Below.refl _ W).alloc (Nat.le_refl _) _
  ⟨heap_alloc_new W _, (show Ch (fun _ => False) W _ from Ch.of_below hb).row hr (fun _ _ => id), fun v hv => (hs v hv).below hb, ha, rfl, hB⟩
theorem opn_fin0 (h : Ld w B d es p off mo) (hb : Below w.heap.size w W) (L : Lw W B1 lb d ⟨pre, sz, [], 1, 0⟩ [] sl) (hB1 : w.heap.size ≤ B1) (hB : B ≤ w.heap.size) (ok : Ok ⟨pre, sz, [], 1, 1⟩) (q : Nat) :
    Lft (foot d mo es) w B lb d ⟨pre, sz, [], 1, 1⟩ (fil es, p, off) ((W.drewN q).setCell ⟨lb, 5, none⟩ (.int .u64 1)) := by
  have hb1 : Below w.heap.size w (W.drewN q) := below_drewN' hb q
  have L1 := h.below hb1
  have W1 := (L.drewN q).lower (B := B) (by omega)
  have W2 := W1.sured
  have C : Ch (fun x => x = lb) (W.drewN q) ((W.drewN q).setCell ⟨lb, 5, none⟩ (.int .u64 1)) := (Ch.refl _ _).setCell _ _ (fun _ => rfl)
  have hlb := L.low
  refine Ls.put (st := (fil es, p, off)) (L1.ch C (fun x hx e => W1.not_ld L1 (.inl e) hx)) rfl W2 ok ((show Ch (foot d mo es) w (W.drewN q) from Ch.of_below hb1).joinG C (fun k hk e => by omega)) (fun x hx => .inl hx) (fun x hx => .inr ?_)
  have := ((L.drewN q).foot_lt hx).2
  omega
theorem opn_fin (h : Ld w B d es p off mo) (hb : Below w.heap.size w W) (L : Lw W B1 lb d ⟨pre, sz, segs, 1, 0⟩ ws sl) (hB1 : w.heap.size ≤ B1) (hB : B ≤ w.heap.size) {q6 : Nat} (D : Did (W.drewN q6) B d es mo w6 st') (q : Nat) {nx : Nat} (ok : Ok ⟨pre, sz, segs, nx, nx⟩) :
    Lft (foot d mo es) w B lb d ⟨pre, sz, segs, nx, nx⟩ st' (((w6.drewN q).setCell ⟨lb, 4, none⟩ (.int .u64 (nx : Int))).setCell ⟨lb, 5, none⟩ (.int .u64 (nx : Int))) := by
  have hb1 : Below w.heap.size w (W.drewN q6) := below_drewN' hb q6
  have L1 := h.below hb1
  have W0 := (L.drewN q6).lower (B := B) (by omega)
  have W1 := (W0.did (st := (fil es, p, off)) L1 D).drewN q
  obtain ⟨es', mo', L', e', C', f'⟩ := D
  have L2 := L'.below (below_drewN' (Below.refl _ w6) q)
  have C4 : Ch (fun x => x = lb) (w6.drewN q) ((w6.drewN q).setCell ⟨lb, 4, none⟩ (.int .u64 (nx : Int))) := (Ch.refl _ _).setCell _ _ (fun _ => rfl)
  have W2 := W1.own (lg' := ⟨pre, sz, segs, nx, 0⟩) C4 rfl rfl (six4 W1.hd _)
  have W3 := W2.sured
  have C5 : Ch (fun x => x = lb) _ (((w6.drewN q).setCell ⟨lb, 4, none⟩ (.int .u64 (nx : Int))).setCell ⟨lb, 5, none⟩ (.int .u64 (nx : Int))) := C4.setCell ⟨lb, 5, none⟩ _ (fun _ => rfl)
  have hlb := L.low
  have C1 : Ch (foot d mo es) w (w6.drewN q) := ((show Ch (foot d mo es) w (W.drewN q6) from Ch.of_below hb1).trans C').trans (Ch.of_below (below_drewN' (Below.refl _ w6) q))
  refine Ls.put (L2.ch C5 (fun x hx e => W1.not_ld L2 (.inl e) hx)) e' W3 ok (C1.joinG C5 (fun k hk e => by omega)) (fun x hx => ?_) (fun x hx => .inr ?_)
  · exact (f' x hx).imp id (fun h1 => Nat.le_trans hb1.size h1)
  · have := (L.foot_lt hx).2
    omega
end
end Go.Proofs.YteifkkceldlfnaaGreatDoor
