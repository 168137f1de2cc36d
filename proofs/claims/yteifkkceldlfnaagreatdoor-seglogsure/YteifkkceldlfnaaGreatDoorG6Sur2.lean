/-
  Power, a crash, and Open behind it, with what SeglogSure has gathered beside.
-/
import Derived.Test.YteifkkceldlfnaaGreatDoorG6Sur
namespace Go.Proofs.YteifkkceldlfnaaGreatDoor
open Go.RowKit Go.Shelf Go.Sort
open Go.Lib hiding intOf

section
variable {W0 wr w w' : World} {B N lb d : Nat} {lg lg' : Lg} {st st' : Ab} {all l acc : List (List UInt8)} {v ev av : Value} {ends ends' : List Nat} {X : Nat → Prop} {es : List Le} {mo : Option Nat}
theorem Ls.power (h : Ls X w B lb d lg st) (a : Int) (ha : a ≤ 9223372036854775807) : Calls Tryz.prog 22 #[.pointer (some ⟨d, 0, none⟩), .int .i64 a] w fun e w' => (∃ v, e = .returned v) ∧ Lft X w B lb d lg (aPow st a) w' := by
  obtain ⟨es, mo, vs, sl, L, e, W, ok, h1, h2⟩ := h
  exact (Power_any L a ha).mono fun _ _ x => ⟨x.1, Ls.put (st := aPow st a) x.2.1 e (W.ch x.2.2 (fun y hy e2 => W.not_ld L hy (.inl e2))) ok (x.2.2.mono (fun k _ e2 => h1 k (.inl e2))) (fun y hy => .inl (h1 y hy)) (fun y hy => .inl (h2 y hy))⟩
/-- what was gathered, and a disk -/
structure Ry (W0 wr : World) (N d : Nat) (es : List Le) (mo : Option Nat) (all : List (List UInt8)) (v ev : Value) (ends : List Nat) : Prop where
  bx : Bx wr N v 35
  row : wr.ownsRow W0.heap.size 9 1 v all.length (strCs all)
  er : wr.ownsRow W0.heap.size 3 1 ev ends.length (endC ends)
  ld : Ld wr W0.heap.size d es (-1) false mo
  fx : ∀ x, foot d mo es x → W0.heap.size ≤ x ∧ x ≠ N ∧ v.ownBlock ≠ some x ∧ ev.ownBlock ≠ some x
  bw : Below W0.heap.size W0 wr
  lo : W0.heap.size ≤ N
theorem Rz.crash (h : Rz W0 wr N lb d lg st all v ev ends) {ka : Option Addr} {ks : List Int} {kc : Nat} (hk : Ks W0 ka ks) (hkb : ks ≠ [] → ∀ a, ka = some a → a.block < W0.heap.size) :
    Calls Tryz.prog 11 #[.pointer (some ⟨d, 0, none⟩), .slice ka ks.length kc] wr fun e w' => (∃ x, e = .returned x) ∧ ∃ es mo, fil es = crAll ks st.1 ∧ Ry W0 w' N d es mo all v ev ends := by
  obtain ⟨es, mo, vs, sl, L, e, W, ok, h1, h2⟩ := h.ls
  have hk' : Ks wr ka ks := fun j hj => by
    obtain ⟨b, o, e1, e2⟩ := hk j hj
    exact ⟨b, o, e1, (h.bw.cell (p := ⟨b, o + j, none⟩) (hkb (fun e0 => by rw [e0] at hj; cases hj) ⟨b, o, none⟩ e1)).trans e2⟩
  refine (Crash_any (kc := kc) L hk' (fun hne a ha => ⟨fun hf => ?_, ?_⟩)).mono ?_
  · have := (h1 _ hf).1
    have := hkb hne a ha
    omega
  · have := hkb hne a ha
    have := h.bw.size
    omega
  · rintro e2 w' ⟨e3, es', mo', L', e4, C, f'⟩
    refine ⟨e3, es', mo', ?_, ?_⟩
    · have e5 : fil es' = crAll ks (fil es) := e4
      rw [e5, e]
    · have c : Ch (fun x => W0.heap.size ≤ x ∧ x ≠ N ∧ v.ownBlock ≠ some x ∧ ev.ownBlock ≠ some x) wr w' := C.mono (fun k _ hx => h1 k hx)
      have hz := c.size
      have hN := h.bx.lt
      refine ⟨h.bx.ch c (fun e => e.2.1 rfl), c.row h.row (fun k hk e => e.2.2.1 hk), c.row h.er (fun k hk e => e.2.2.2 hk), L', fun x hx => ?_, h.bw.trans (c.below h.bw.size (fun k hk e => by omega)), h.lo⟩
      rcases f' x hx with hx | hx
      · exact h1 x hx
      · exact ⟨by have := h.bw.size; omega, by omega, fun e => by have := h.lt (.inl e); omega, fun e => by have := h.lt (.inr e); omega⟩
theorem Ry.open {fs : List Fil} {keep : List Int} (h : Ry W0 wr N d es mo all v ev ends) (hf : fil es = crAll keep fs) (hb : Bg lg fs ends') (ok : Ok lg) (hpn : Pn lg acc) (hp : isP lg.pre = true) (hv : Gv W0.heap.size W0) (he : Ev W0.heap.size W0) :
    Calls Tryz.prog 9 #[.pointer (some ⟨d, 0, none⟩), .string lg.pre, .int .i64 (lg.sz : Int)] wr fun e w' => ∃ lb lg2 st2, e = .returned (.tuple #[.pointer (some ⟨lb, 0, none⟩), .int .i64 0]) ∧ Rz W0 w' N lb d lg2 st2 all v ev ends ∧ Beh lg lg2 acc ends' := by
  refine (Open_behind h.ld hf hb ok hpn hp (hv.below h.bw) (he.below h.bw) h.bw.size).mono ?_
  rintro e w' ⟨lb, lg2, st2, rfl, ⟨L, C⟩, hB⟩
  have c : Ch (fun x => W0.heap.size ≤ x ∧ x ≠ N ∧ v.ownBlock ≠ some x ∧ ev.ownBlock ≠ some x) wr w' := C.mono (fun k _ hx => h.fx k hx)
  have hz := c.size
  have hN := h.bx.lt
  refine ⟨lb, lg2, st2, rfl, ⟨h.bx.ch c (fun e => e.2.1 rfl), c.row h.row (fun k hk e => e.2.2.1 hk), c.row h.er (fun k hk e => e.2.2.2 hk), L.mono (fun x hx => ?_), h.bw.trans (c.below h.bw.size (fun k hk e => by omega)), h.lo⟩, hB⟩
  rcases hx with hx | hx
  · exact h.fx x hx
  · refine ⟨by have := h.bw.size; omega, by omega, fun e => ?_, fun e => ?_⟩
    · obtain ⟨_, cur, h1⟩ := row_obj h.row e
      have := (Array.getElem?_eq_some_iff.1 h1).1
      omega
    · obtain ⟨_, cur, h1⟩ := row_obj h.er e
      have := (Array.getElem?_eq_some_iff.1 h1).1
      omega
end
end Go.Proofs.YteifkkceldlfnaaGreatDoor
