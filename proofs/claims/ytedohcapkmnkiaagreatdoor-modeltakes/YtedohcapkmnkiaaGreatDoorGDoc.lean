/-
  The document's Take of a process, plain; its small and count.
-/
import Derived.Test.YtedohcapkmnkiaaGreatDoorM11Tak
import Derived.Test.YtedohcapkmnkiaaGreatDoorRefText
namespace Go.Proofs.YtedohcapkmnkiaaGreatDoor.m11
open Go.Proofs.YtedohcapkmnkiaaGreatDoor.x10
open Go.RowKit Go.Shelf Go.Sort
open Go.Lib hiding intOf

/-- the document's reader: what is left, its error -/
abbrev Ds := List UInt8 × Nat
def dNum (d : Ds) : Int × Ds :=
  (Lib.unzigzag (rdU d.1 d.2).1, (rdU d.1 d.2).2.1, if (rdU d.1 d.2).2.2 = 0 ∧ (Lib.unzigzag (rdU d.1 d.2).1 < -2147483648 ∨ 2147483647 < Lib.unzigzag (rdU d.1 d.2).1) then 3 else (rdU d.1 d.2).2.2)
def dInt (d : Ds) : Int × Ds := (Lib.unzigzag (rdU d.1 d.2).1, (rdU d.1 d.2).2.1, (rdU d.1 d.2).2.2)
def dTxt (m : Int) (d : Ds) : List UInt8 × Ds := ((rdT m d.1 d.2).1, (rdT m d.1 d.2).2.1, (rdT m d.1 d.2).2.2)
def dNode (s : Ds) : Nd × Ds :=
  let a := dNum s; let b := dNum a.2; let c := dNum b.2; let d := dTxt 32 c.2; let e := dTxt 32 d.2; let f := dTxt 512 e.2; let g := dInt f.2
  (⟨a.1, b.1, c.1, d.1, e.1, f.1, g.1⟩, g.2)
def dFlow (s : Ds) : Fl × Ds :=
  let a := dNum s; let b := dNum a.2; let c := dTxt 512 b.2
  (⟨a.1, b.1, c.1⟩, c.2)
/-- how many -/
def dCnt (most : Nat) (d : Ds) : Nat × Ds :=
  if (rdU d.1 d.2).2.2 = 0 then (if most < (rdU d.1 d.2).1 then (0, (rdU d.1 d.2).2.1, 13) else ((rdU d.1 d.2).1, (rdU d.1 d.2).2.1, 0)) else (0, (rdU d.1 d.2).2.1, (rdU d.1 d.2).2.2)
def dLoop {α : Type} (f : Ds → α × Ds) : Nat → Ds → List α × Ds
  | 0, s => ([], s)
  | n + 1, s => if s.2 ≠ 0 then ([], s) else ((f s).1 :: (dLoop f n (f s).2).1, (dLoop f n (f s).2).2)
def dProc (s : Ds) : Pc × Ds :=
  let a := dTxt 32 s; let n := dCnt 40 a.2; let b := dLoop dNode n.1 n.2; let k := dCnt 80 b.2; let c := dLoop dFlow k.1 k.2
  (⟨a.1, b.1, c.1⟩, c.2)
def dkP (l : List UInt8) : Pc × Int := if 8192 < l.length then (p0, 13) else if endOf (dProc (l, 0)).2.1 (dProc (l, 0)).2.2 ≠ 0 then (p0, (endOf (dProc (l, 0)).2.1 (dProc (l, 0)).2.2 : Int)) else ((dProc (l, 0)).1, 0)

/-- the taker's first error -/
def fc (s : Ts) : Nat := if s.t ≠ 0 then s.t else s.e
/-- both are at the same, or both have failed alike -/
structure Sm (d : Ds) (s : Ts) : Prop where
  ok : d.2 = 0 → s = ⟨d.1, 0, 0⟩
  no : d.2 ≠ 0 → fc s = d.2
/-- a taker's step and the document's -/
structure Stp {α : Type} (f : Ds → α × Ds) (g : Ts → α × Ts) : Prop where
  keep : ∀ d, d.2 ≠ 0 → (f d).2 = d
  no : ∀ s, fc s ≠ 0 → fc (g s).2 = fc s
  sm : ∀ l, Sm (f (l, 0)).2 (g ⟨l, 0, 0⟩).2
  eq : ∀ l, (f (l, 0)).2.2 = 0 → (f (l, 0)).1 = (g ⟨l, 0, 0⟩).1
theorem Stp.next {α : Type} {f : Ds → α × Ds} {g : Ts → α × Ts} (h : Stp f g) {d : Ds} {s : Ts} (k : Sm d s) : Sm (f d).2 (g s).2 := by
  by_cases h0 : d.2 = 0
  · obtain ⟨l, e⟩ := d
    simp only at h0
    subst h0
    rw [k.ok rfl]
    exact h.sm l
  · rw [h.keep d h0]
    have := k.no h0
    refine ⟨fun e => absurd e h0, fun _ => ?_⟩
    rw [h.no s (by omega), this]
theorem Stp.val {α : Type} {f : Ds → α × Ds} {g : Ts → α × Ts} (h : Stp f g) {d : Ds} {s : Ts} (k : Sm d s) (h1 : (f d).2.2 = 0) : (f d).1 = (g s).1 := by
  by_cases h0 : d.2 = 0
  · obtain ⟨l, e⟩ := d
    simp only at h0
    subst h0
    rw [k.ok rfl]
    exact h.eq l h1
  · rw [h.keep d h0] at h1
    exact absurd h1 h0
/-- a step that leaves no error began with none -/
theorem Stp.back {α : Type} {f : Ds → α × Ds} {g : Ts → α × Ts} (h : Stp f g) {d : Ds} (h1 : (f d).2.2 = 0) : d.2 = 0 := by
  by_cases h0 : d.2 = 0
  · exact h0
  · rw [h.keep d h0] at h1
    exact h1
theorem rdU_e {l : List UInt8} {e : Nat} (h : e ≠ 0) : rdU l e = (0, l, e) := by unfold rdU; rw [if_neg h]
theorem rdT_e {m : Int} {l : List UInt8} {e : Nat} (h : e ≠ 0) : rdT m l e = ([], l, e) := by unfold rdT; rw [if_neg h]
theorem rdU_f {l : List UInt8} (h : (rdU l 0).2.2 ≠ 0) : (rdU l 0).1 = 0 := by
  unfold rdU at h ⊢
  rw [if_pos rfl] at h ⊢
  split
  · rename_i h1; rw [if_pos h1] at h; exact absurd rfl h
  · rfl
theorem uz0 : Lib.unzigzag 0 = 0 := rfl
theorem stp_num : Stp dNum tNum := by
  refine ⟨fun d h => ?_, fun s h => ?_, fun l => ?_, fun l h => ?_⟩
  · unfold dNum
    rw [rdU_e h, if_neg (fun e => h e.1)]
  · unfold tNum
    simp only
    by_cases he : s.e = 0
    · have ht : s.t ≠ 0 := by unfold fc at h; split at h <;> omega
      split
      · unfold fc ref1; simp only; rw [if_neg ht, if_pos ht, if_pos ht]
      · unfold fc; simp only; rw [if_pos ht, if_pos ht]
    · rw [rdU_e he, if_neg (by show ¬ (Lib.unzigzag 0 < -2147483648 ∨ 2147483647 < Lib.unzigzag 0); rw [uz0]; omega)]
  · unfold dNum tNum
    simp only
    by_cases h0 : (rdU l 0).2.2 = 0
    · by_cases hr : Lib.unzigzag (rdU l 0).1 < -2147483648 ∨ 2147483647 < Lib.unzigzag (rdU l 0).1
      · rw [if_pos ⟨h0, hr⟩, if_pos hr]
        exact ⟨(fun e => by cases e), fun _ => by unfold fc ref1; rfl⟩
      · rw [if_neg (fun e => hr e.2), if_neg hr]
        exact ⟨fun _ => by simp only; rw [h0], fun e => absurd h0 e⟩
    · have hv := rdU_f h0
      rw [if_neg (fun e => h0 e.1), hv, uz0, if_neg (by omega)]
      exact ⟨fun e => absurd e h0, fun _ => by unfold fc; rfl⟩
  · unfold dNum tNum at *
    simp only at h ⊢
    by_cases hr : Lib.unzigzag (rdU l 0).1 < -2147483648 ∨ 2147483647 < Lib.unzigzag (rdU l 0).1
    · by_cases h0 : (rdU l 0).2.2 = 0
      · rw [if_pos ⟨h0, hr⟩] at h; cases h
      · rw [rdU_f h0, uz0] at hr; omega
    · rw [if_neg hr]
theorem stp_int : Stp dInt tInt := by
  refine ⟨fun d h => ?_, fun s h => ?_, fun l => ?_, fun l h => ?_⟩
  · unfold dInt
    rw [rdU_e h]
  · unfold tInt fc
    simp only
    by_cases he : s.e = 0
    · have ht : s.t ≠ 0 := by unfold fc at h; split at h <;> omega
      rw [if_pos ht, if_pos ht]
    · rw [rdU_e he]
  · unfold dInt tInt
    by_cases h0 : (rdU l 0).2.2 = 0
    · exact ⟨fun _ => by simp only; rw [h0], fun e => absurd h0 e⟩
    · exact ⟨fun e => absurd e h0, fun _ => by unfold fc; rfl⟩
  · rfl
theorem stp_txt (m : Int) : Stp (dTxt m) (tTxt m) := by
  refine ⟨fun d h => ?_, fun s h => ?_, fun l => ?_, fun l h => ?_⟩
  · unfold dTxt
    rw [rdT_e h]
  · unfold tTxt fc
    simp only
    by_cases he : s.e = 0
    · have ht : s.t ≠ 0 := by unfold fc at h; split at h <;> omega
      rw [if_pos ht, if_pos ht]
    · rw [rdT_e he]
  · unfold dTxt tTxt
    by_cases h0 : (rdT m l 0).2.2 = 0
    · exact ⟨fun _ => by simp only; rw [h0], fun e => absurd h0 e⟩
    · exact ⟨fun e => absurd e h0, fun _ => by unfold fc; rfl⟩
  · rfl
theorem sm0 (l : List UInt8) : Sm (l, 0) ⟨l, 0, 0⟩ := ⟨fun _ => rfl, fun e => absurd rfl e⟩
theorem stp_node : Stp dNode tNode := by
  refine ⟨fun d h => ?_, fun s h => ?_, fun l => ?_, fun l h => ?_⟩
  · unfold dNode
    simp only [stp_num.keep d h, (stp_txt 32).keep d h, (stp_txt 512).keep d h, stp_int.keep d h]
  · unfold tNode
    simp only
    have a := stp_num.no s h
    have b := stp_num.no (tNum s).2 (by rw [a]; exact h)
    have c := stp_num.no (tNum (tNum s).2).2 (by rw [b, a]; exact h)
    have d := (stp_txt 32).no (tNum (tNum (tNum s).2).2).2 (by rw [c, b, a]; exact h)
    have e := (stp_txt 32).no (tTxt 32 (tNum (tNum (tNum s).2).2).2).2 (by rw [d, c, b, a]; exact h)
    have f := (stp_txt 512).no (tTxt 32 (tTxt 32 (tNum (tNum (tNum s).2).2).2).2).2 (by rw [e, d, c, b, a]; exact h)
    have g := stp_int.no (tTxt 512 (tTxt 32 (tTxt 32 (tNum (tNum (tNum s).2).2).2).2).2).2 (by rw [f, e, d, c, b, a]; exact h)
    rw [g, f, e, d, c, b, a]
  · unfold dNode tNode
    simp only
    exact stp_int.next ((stp_txt 512).next ((stp_txt 32).next ((stp_txt 32).next (stp_num.next (stp_num.next (stp_num.next (sm0 l)))))))
  · unfold dNode tNode at *
    simp only at h ⊢
    have s1 := stp_num.next (sm0 l)
    have s2 := stp_num.next s1
    have s3 := stp_num.next s2
    have s4 := (stp_txt 32).next s3
    have s5 := (stp_txt 32).next s4
    have s6 := (stp_txt 512).next s5
    have h6 := stp_int.back h
    have h5 := (stp_txt 512).back h6
    have h4 := (stp_txt 32).back h5
    have h3 := (stp_txt 32).back h4
    have h2 := stp_num.back h3
    have h1 := stp_num.back h2
    rw [stp_num.val (sm0 l) h1, stp_num.val s1 h2, stp_num.val s2 h3, (stp_txt 32).val s3 h4, (stp_txt 32).val s4 h5, (stp_txt 512).val s5 h6, stp_int.val s6 h]
theorem stp_flow : Stp dFlow tFlow := by
  refine ⟨fun d h => ?_, fun s h => ?_, fun l => ?_, fun l h => ?_⟩
  · unfold dFlow
    simp only [stp_num.keep d h, (stp_txt 512).keep d h]
  · unfold tFlow
    simp only
    have a := stp_num.no s h
    have b := stp_num.no (tNum s).2 (by rw [a]; exact h)
    have c := (stp_txt 512).no (tNum (tNum s).2).2 (by rw [b, a]; exact h)
    rw [c, b, a]
  · unfold dFlow tFlow
    simp only
    exact (stp_txt 512).next (stp_num.next (stp_num.next (sm0 l)))
  · unfold dFlow tFlow at *
    simp only at h ⊢
    have s1 := stp_num.next (sm0 l)
    have s2 := stp_num.next s1
    have h2 := (stp_txt 512).back h
    have h1 := stp_num.back h2
    rw [stp_num.val (sm0 l) h1, stp_num.val s1 h2, (stp_txt 512).val s2 h]
theorem loop_no {α : Type} {f : Ds → α × Ds} {g : Ts → α × Ts} (h : Stp f g) : ∀ (n : Nat) (s : Ts), fc s ≠ 0 → fc (tLoop g n s).2 = fc s
  | 0, _, _ => rfl
  | n + 1, s, h0 => by
    rw [tLoop]
    simp only
    rw [loop_no h n _ (by rw [h.no s h0]; exact h0), h.no s h0]
theorem loop_back {α : Type} {f : Ds → α × Ds} : ∀ (n : Nat) (d : Ds), (dLoop f n d).2.2 = 0 → d.2 = 0
  | 0, _, e => e
  | n + 1, d, e => by
    by_cases h0 : d.2 = 0
    · exact h0
    · rw [dLoop, if_pos h0] at e
      exact e
theorem loop_sm {α : Type} {f : Ds → α × Ds} {g : Ts → α × Ts} (h : Stp f g) : ∀ (n : Nat) (d : Ds) (s : Ts), Sm d s → Sm (dLoop f n d).2 (tLoop g n s).2 ∧ ((dLoop f n d).2.2 = 0 → (dLoop f n d).1 = (tLoop g n s).1)
  | 0, d, s, k => ⟨k, fun _ => rfl⟩
  | n + 1, d, s, k => by
    rw [dLoop, tLoop]
    by_cases h0 : d.2 = 0
    · rw [if_neg (by omega)]
      have ih := loop_sm h n (f d).2 (g s).2 (h.next k)
      refine ⟨ih.1, fun e => ?_⟩
      simp only at e ⊢
      rw [ih.2 e, h.val k ?_]
      exact loop_back n _ e
    · rw [if_pos h0]
      have hn := k.no h0
      refine ⟨⟨fun e => absurd e h0, fun _ => ?_⟩, fun e => absurd e h0⟩
      simp only
      have h1 := h.no s (by omega)
      rw [loop_no h n _ (by rw [h1]; omega), h1, hn]
theorem many_sm {α : Type} {f : Ds → α × Ds} {g : Ts → α × Ts} (h : Stp f g) (most : Nat) {d : Ds} {s : Ts} (k : Sm d s) : Sm (dLoop f (dCnt most d).1 (dCnt most d).2).2 (tMany most g s).2 ∧ ((dLoop f (dCnt most d).1 (dCnt most d).2).2.2 = 0 → (dLoop f (dCnt most d).1 (dCnt most d).2).1 = (tMany most g s).1) ∧ ((dLoop f (dCnt most d).1 (dCnt most d).2).2.2 = 0 → d.2 = 0) := by
  by_cases h0 : d.2 = 0
  · obtain ⟨l, e⟩ := d
    simp only at h0
    subst h0
    have hs := k.ok rfl
    simp only at hs
    subst hs
    unfold dCnt tMany
    simp only
    by_cases h1 : (rdU l 0).2.2 = 0
    · rw [if_pos h1]
      by_cases h2 : most < (rdU l 0).1
      · rw [if_pos h2, if_pos h2]
        exact ⟨⟨(fun e => by cases e), fun _ => by unfold fc ref1; rfl⟩, (fun e => by cases e), fun _ => trivial⟩
      · rw [if_neg h2, if_neg h2]
        have := loop_sm h (rdU l 0).1 ((rdU l 0).2.1, 0) ⟨(rdU l 0).2.1, (rdU l 0).2.2, 0⟩ ⟨fun _ => by simp only; rw [h1], fun e => absurd rfl e⟩
        exact ⟨this.1, this.2, fun _ => trivial⟩
    · have hv := rdU_f h1
      rw [if_neg h1, hv, if_neg (by omega)]
      exact ⟨⟨fun e => absurd e h1, fun _ => by simp [tLoop, dLoop, fc]⟩, fun e => absurd e h1, fun _ => trivial⟩
  · have hk : dCnt most d = (0, d) := by
      unfold dCnt
      rw [rdU_e h0, if_neg h0]
    have hn := k.no h0
    rw [hk]
    refine ⟨⟨fun e => absurd e h0, fun _ => ?_⟩, fun e => absurd e h0, fun e => absurd e h0⟩
    simp only [dLoop]
    unfold tMany
    by_cases he : s.e = 0
    · have ht : s.t ≠ 0 := by unfold fc at hn; split at hn <;> omega
      split
      · unfold fc at hn ⊢; unfold ref1; simp only; rw [if_pos ht] at hn; rw [if_neg ht, if_pos ht]; exact hn
      · have h5 : fc ⟨(rdU s.l s.e).2.1, (rdU s.l s.e).2.2, s.t⟩ = d.2 := by unfold fc at hn ⊢; simp only; rw [if_pos ht] at hn ⊢; exact hn
        rw [loop_no h _ _ (by rw [h5]; exact h0), h5]
    · rw [rdU_e he]
      simp only
      rw [if_neg (by omega)]
      exact hn
theorem dkP_eq (l : List UInt8) : dkP l = tkP l := by
  unfold dkP tkP
  by_cases hl : 8192 < l.length
  · rw [if_pos hl, if_pos hl]
  · rw [if_neg hl, if_neg hl]
    have s1 := (stp_txt 32).next (sm0 l)
    have s2 := many_sm stp_node 40 s1
    have s3 := many_sm stp_flow 80 s2.1
    have e1 : (dProc (l, 0)).2 = (dLoop dFlow (dCnt 80 (dLoop dNode (dCnt 40 (dTxt 32 (l, 0)).2).1 (dCnt 40 (dTxt 32 (l, 0)).2).2).2).1 (dCnt 80 (dLoop dNode (dCnt 40 (dTxt 32 (l, 0)).2).1 (dCnt 40 (dTxt 32 (l, 0)).2).2).2).2).2 := by unfold dProc; simp only
    have e2 : (tProc ⟨l, 0, 0⟩).2 = (tMany 80 tFlow (tMany 40 tNode (tTxt 32 ⟨l, 0, 0⟩).2).2).2 := by unfold tProc; simp only
    rw [← e1, ← e2] at s3
    have hfin : endOf (dProc (l, 0)).2.1 (dProc (l, 0)).2.2 = tEr (tProc ⟨l, 0, 0⟩).2 := by
      generalize (dProc (l, 0)).2 = D at s3
      generalize (tProc ⟨l, 0, 0⟩).2 = T at s3
      unfold tEr
      by_cases h0 : D.2 = 0
      · rw [s3.1.ok h0, if_neg (by simp), h0]
      · have hn := s3.1.no h0
        unfold fc at hn
        by_cases ht : T.t = 0
        · rw [if_neg (by omega)] at hn ⊢
          unfold endOf
          rw [if_neg h0, if_neg (by omega), hn]
        · rw [if_pos ht] at hn ⊢
          unfold endOf
          rw [if_neg h0, hn]
    rw [← hfin]
    by_cases hz : endOf (dProc (l, 0)).2.1 (dProc (l, 0)).2.2 = 0
    · rw [if_neg (by omega), if_neg (by omega)]
      have hd : (dProc (l, 0)).2.2 = 0 := by
        unfold endOf at hz
        by_cases h0 : (dProc (l, 0)).2.2 = 0
        · exact h0
        · rw [if_neg h0] at hz; exact hz
      have v3 := s3.2.1 hd
      have d2 := s3.2.2 hd
      have v2 := s2.2.1 d2
      have d1 := s2.2.2 d2
      have v1 := (stp_txt 32).val (sm0 l) d1
      have : (dProc (l, 0)).1 = (tProc ⟨l, 0, 0⟩).1 := by
        unfold dProc tProc
        simp only
        rw [v1, v2, v3]
      rw [this]
    · rw [if_pos hz, if_pos hz]
end Go.Proofs.YtedohcapkmnkiaaGreatDoor.m11
namespace Go.Proofs.YtedohcapkmnkiaaGreatDoor.m11
open Go.Proofs.YtedohcapkmnkiaaGreatDoor.x10
open Go.RowKit Go.Shelf Go.Sort
open Go.Lib hiding intOf

set_option maxHeartbeats 1000000 in
theorem dsmall_any {w : World} {b e : Nat} {l : List UInt8} (h : Rd w b l e) (hl : l.length ≤ 8192) : Calls Tryz.prog 16 #[.pointer (some ⟨b, 0, none⟩)] w fun r w' => r = .returned (.int .i64 (dNum (l, e)).1) ∧ Rd w' b (dNum (l, e)).2.1 (dNum (l, e)).2.2 ∧ But b w w' := by
  obtain ⟨v, l2, e2, hr⟩ : ∃ v l2 e2, rdU l e = (v, l2, e2) := ⟨_, _, _, rfl⟩
  have CI := rInt_all h (by omega) (show Hid _ from hr)
  unfold dNum
  rw [hr]
  simp only
  generalize Lib.unzigzag v = n at *
  clear h hr
  by_cases h0 : e2 = 0
  · subst h0
    by_cases h1 : n < -2147483648
    · rw [if_pos ⟨rfl, .inl h1⟩]
      go_enter Tryz.func16, Tryz.ntmps16
      go_wp2_with (go_at_call 17; refine CI.mono ?_; rintro e' w1 ⟨rfl, r1, b1⟩; (have c1 := r1.err); (have f1 := r1.fe); (have R1 : Hid (Rd (w1.setCell ⟨b, 1, none⟩ (.int .i64 3)) b l2 3 ∧ But b w (w1.setCell ⟨b, 1, none⟩ (.int .i64 3))) := ⟨r1.set1 3, b1.setCell 1 _⟩); clear r1 b1 CI)
      go_ret
      exact ⟨rfl, R1.out⟩
    · by_cases h2 : 2147483647 < n
      · rw [if_pos ⟨rfl, .inr h2⟩]
        go_enter Tryz.func16, Tryz.ntmps16
        go_wp2_with (go_at_call 17; refine CI.mono ?_; rintro e' w1 ⟨rfl, r1, b1⟩; (have c1 := r1.err); (have f1 := r1.fe); (have R1 : Hid (Rd (w1.setCell ⟨b, 1, none⟩ (.int .i64 3)) b l2 3 ∧ But b w (w1.setCell ⟨b, 1, none⟩ (.int .i64 3))) := ⟨r1.set1 3, b1.setCell 1 _⟩); clear r1 b1 CI)
        go_ret
        exact ⟨rfl, R1.out⟩
      · rw [if_neg (by omega)]
        go_enter Tryz.func16, Tryz.ntmps16
        go_wp2_with (go_at_call 17; refine CI.mono ?_; rintro e' w1 ⟨rfl, r1, b1⟩; (have c1 := r1.err); (have R1 : Hid (Rd w1 b l2 0 ∧ But b w w1) := ⟨r1, b1⟩); clear r1 b1 CI)
        go_ret
        exact ⟨rfl, R1.out⟩
  · rw [if_neg (fun e => h0 e.1)]
    have hb : ((e2 : Int) == 0) = false := beq_eq_false_iff_ne.2 (by omega)
    have hb2 : ¬ (e2 : Int) = 0 := by omega
    have hb3 : ¬ e2 = 0 := h0
    go_enter Tryz.func16, Tryz.ntmps16
    go_wp2_with (go_at_call 17; refine CI.mono ?_; rintro e' w1 ⟨rfl, r1, b1⟩; (have c1 := r1.err); (have R1 : Hid (Rd w1 b l2 e2 ∧ But b w w1) := ⟨r1, b1⟩); clear r1 b1 CI)
    go_ret
    exact ⟨rfl, R1.out⟩

set_option maxHeartbeats 1000000 in
theorem dcount_any {w : World} {b e most : Nat} {l : List UInt8} (h : Rd w b l e) (hl : l.length ≤ 8192) (hm : most ≤ 1000) : Calls Tryz.prog 15 #[.pointer (some ⟨b, 0, none⟩), .int .u64 (most : Int)] w fun r w' => r = .returned (.int .i64 ((dCnt most (l, e)).1 : Int)) ∧ Rd w' b (dCnt most (l, e)).2.1 (dCnt most (l, e)).2.2 ∧ But b w w' := by
  obtain ⟨v, l2, e2, hr⟩ : ∃ v l2 e2, rdU l e = (v, l2, e2) := ⟨_, _, _, rfl⟩
  have CI := rUint_all h (by omega) (show Hid _ from hr)
  unfold dCnt
  rw [hr]
  simp only
  clear h hr
  by_cases h0 : e2 = 0
  · subst h0
    rw [if_pos rfl]
    by_cases h1 : most < v
    · rw [if_pos h1]
      have h1' : (most : Int) < (v : Int) := by omega
      go_enter Tryz.func15, Tryz.ntmps15
      go_wp2_with (go_at_call 36; refine CI.mono ?_; rintro e' w1 ⟨rfl, r1, b1⟩; (have c1 := r1.err); (have f1 := r1.fe); (have R1 : Hid (Rd (w1.setCell ⟨b, 1, none⟩ (.int .i64 13)) b l2 13 ∧ But b w (w1.setCell ⟨b, 1, none⟩ (.int .i64 13))) := ⟨r1.set1 13, b1.setCell 1 _⟩); clear r1 b1 CI)
      go_ret
      exact ⟨rfl, R1.out⟩
    · rw [if_neg h1]
      have h1' : ¬ (most : Int) < (v : Int) := by omega
      have hv : v ≤ 1000 := by omega
      have hw : IntKind.i64.wrap (v : Int) = (v : Int) := IntWalk.i64_in _ (by omega)
      go_enter Tryz.func15, Tryz.ntmps15
      go_wp2_with (go_at_call 36; refine CI.mono ?_; rintro e' w1 ⟨rfl, r1, b1⟩; (have c1 := r1.err); (have R1 : Hid (Rd w1 b l2 0 ∧ But b w w1) := ⟨r1, b1⟩); clear r1 b1 CI)
      go_ret
      exact ⟨rfl, R1.out⟩
  · rw [if_neg h0]
    have hb : ((e2 : Int) == 0) = false := beq_eq_false_iff_ne.2 (by omega)
    have hb1 : ((e2 : Int) != 0) = true := bne_iff_ne.2 (by omega)
    have hb2 : ¬ (e2 : Int) = 0 := by omega
    have hb3 : ¬ e2 = 0 := h0
    go_enter Tryz.func15, Tryz.ntmps15
    go_wp2_with (go_at_call 36; refine CI.mono ?_; rintro e' w1 ⟨rfl, r1, b1⟩; (have c1 := r1.err); (have R1 : Hid (Rd w1 b l2 e2 ∧ But b w w1) := ⟨r1, b1⟩); clear r1 b1 CI)
    go_ret
    exact ⟨rfl, R1.out⟩
end Go.Proofs.YtedohcapkmnkiaaGreatDoor.m11
