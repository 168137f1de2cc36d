/-
  The document's Clone.
-/
import Derived.Test.YtmfempdcpoeicaaGreatF13Put
import Derived.Test.YtmfempdcpoeicaaGreatF13Cl
import Derived.Deep.RegionLaw
import Derived.Deep.CutRange
namespace Go.Proofs.YtmfempdcpoeicaaGreat.f13
open Go.RowKit Go.Shelf Go.Sort
open Go.Lib hiding intOf

theorem Own.cellRow {α : Type} {k : Nat} {c : α → List Value} (hk : ∀ x, (c x).length = k) {B : Nat} {w w1 : World} {t : TypeId} {g n cap i j : Nat} {X : List α} {L : List Rw} {r : Rw} (h : Own B w (⟨t, k, .slice (some ⟨g, 0, none⟩) n cap, n, X.flatMap c⟩ :: L)) (hi : i < X.length) (hb : Below w.heap.size w w1) (hr : r.ok w.heap.size w1) (hB : B ≤ w.heap.size) (y : α) (hj : j < k) (hy : c y = (c X[i]).set j r.v) :
   Own B (w1.setCell ⟨g,i*k+j,none⟩ r.v) (⟨t,k,.slice (some ⟨g,0,none⟩) n cap,n,(X.set i y).flatMap c⟩::r::L)∧Below B w (w1.setCell ⟨g,i*k+j,none⟩ r.v):=by
 have h1:=(h.add hb hr hB).perm (List.Perm.swap _ _ _)
 have hg:w1.ownsRow B t k (.slice (some ⟨g,0,none⟩) n cap) n (X.flatMap c):=h1.own _ (List.mem_cons_self ..)
 have hlt:=hg.lt g rfl
 have hp:=row_put hg (i*k+j) r.v
 rw [fm_set hk X i j hi hj y r.v hy] at hp
 exact ⟨h1.turn (r':=⟨t,k,.slice (some ⟨g,0,none⟩) n cap,n,(X.set i y).flatMap c⟩) (ch_cell w1 g (i*k+j) r.v) hp (fun b hb=>.inl hb),(hb.mono hB).trans ((ch_cell w1 g (i*k+j) r.v).below (Nat.le_trans hB hb.size) (fun b hb e=>by injection e with e;omega))⟩

theorem Own.step {α : Type} {k : Nat} {c : α → List Value} (hk : ∀ x, (c x).length = k) {rr : α → Rw} {B : Nat} {w w1 : World} {t : TypeId} {g n cap i j : Nat} {X : List α} {R : List Rw} {q : Rw} (h : Own B w (⟨t, k, .slice (some ⟨g, 0, none⟩) n cap, n, X.flatMap c⟩ :: ((X.take i).map rr ++ R))) (hi : i < X.length) (hb : Below w.heap.size w w1) (hr : q.ok w.heap.size w1) (hB : B ≤ w.heap.size) (y : α) (hq : rr y = q) (hj : j < k) (hy : c y = (c X[i]).set j q.v) :
   Own B (w1.setCell ⟨g,i*k+j,none⟩ q.v) (⟨t,k,.slice (some ⟨g,0,none⟩) n cap,n,(X.set i y).flatMap c⟩::(((X.set i y).take (i+1)).map rr++R))∧Below B w (w1.setCell ⟨g,i*k+j,none⟩ q.v):=by
 obtain ⟨k1,k2⟩:=Own.cellRow (c:=c) hk (r:=q) h hi hb hr hB y (j:=j) hj hy
 refine ⟨k1.perm (List.Perm.cons _ ?_),k2⟩
 have ht:(X.set i y).take (i+1)=X.take i++[y]:=by
   rw [List.take_succ_eq_append_getElem (by rw [List.length_set];exact hi),List.getElem_set_self,List.take_set_of_le (by omega)]
 rw [ht,List.map_append,List.append_assoc]
 simp only [List.map_cons,List.map_nil,hq]
 exact List.perm_middle.symm
theorem row_set {w:World} {g i:Nat} {a old:Array Value} {t:TypeId} {fr:Nat × Nat} {v:Value} (hg:w.heap[g]?=some (.cells old t fr)):(w.setRow g a).setCell ⟨g,i,none⟩ v=w.setRow g (a.setIfInBounds i v):=by
 rw [setCell_eq_setRow (w.setRow g a) g i a t fr v (setRow_heap w g old a t fr hg),setRow_setRow]
end Go.Proofs.YtmfempdcpoeicaaGreat.f13
