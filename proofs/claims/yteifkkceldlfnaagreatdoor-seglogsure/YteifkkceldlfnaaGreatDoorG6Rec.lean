/-
  What Open comes to behind a crash: all that was sure, and whole batches.
-/
import Derived.Test.YteifkkceldlfnaaGreatDoorG6Cra
import Derived.Test.YteifkkceldlfnaaGreatDoorG6Opn
namespace Go.Proofs.YteifkkceldlfnaaGreatDoor
open Go.RowKit Go.Shelf Go.Sort
open Go.Lib hiding intOf

theorem ps_same : ∀ {a b : List Nat}, a.Pairwise (· < ·) → b.Pairwise (· < ·) → (∀ n, n ∈ a ↔ n ∈ b) → a = b
  | [], [], _, _, _ => rfl
  | [], y :: b, _, _, h => by have := (h y).2 (by simp); cases this
  | x :: a, [], _, _, h => by have := (h x).1 (by simp); cases this
  | x :: a, y :: b, ha, hb, h => by
    rw [List.pairwise_cons] at ha hb
    have e : x = y := by
      rcases List.mem_cons.1 ((h x).1 (by simp)) with e | h1
      · exact e
      · rcases List.mem_cons.1 ((h y).2 (by simp)) with e | h2
        · exact e.symm
        · have := ha.1 y h2
          have := hb.1 x h1
          omega
    subst e
    congr 1
    refine ps_same ha.2 hb.2 (fun n => ⟨fun hn => ?_, fun hn => ?_⟩)
    · rcases List.mem_cons.1 ((h n).1 (List.mem_cons_of_mem _ hn)) with e | h1
      · have := ha.1 n hn; omega
      · exact h1
    · rcases List.mem_cons.1 ((h n).2 (List.mem_cons_of_mem _ hn)) with e | h1
      · have := hb.1 n hn; omega
      · exact h1
theorem Cn.rise : ∀ {segs : List Sg} {n : Nat}, Cn segs n → (segs.map Sg.first).Pairwise (· < ·)
  | [], _, _ => List.Pairwise.nil
  | [s], _, _ => List.pairwise_singleton _ _
  | s :: t :: r, n, h => by
    rw [List.map_cons, List.pairwise_cons]
    refine ⟨fun m hm => ?_, Cn.rise h.tail⟩
    obtain ⟨x, hx, rfl⟩ := List.mem_map.1 hm
    have h1 := (h.tail.first_le t r rfl x hx).1
    have h2 : s.next = t.first := h.1
    have h3 : 0 < s.recs.length := List.length_pos_iff.2 h.2.1
    unfold Sg.next at h2
    omega
theorem stl_ok {fs : List Fil} {k : ByteArray} {sz : Nat} (hr : Rise fs) (hh : has fs k = true) (hs : sz ≤ (gv fs k).1.size + (gv fs k).2.size) (tn : Bool) : (stl (fs, -1, false) k sz tn).1 = 0 := by
  have hn : noOf fs false k = 0 := by unfold noOf; rw [hh]; rfl
  have hp : powOk (-1) = true := by decide
  have hpo : powOf (-1) = -1 := by decide
  cases tn with
  | false =>
    show (aSync (fs, -1, false) k).1 = 0
    unfold aSync stepA
    simp only [hn, hp]
    rfl
  | true =>
    have hc : aCut (fs, -1, false) k (sz : Int) = (0, put fs k (cutv (gv fs k) sz), -1, false) := by
      have h0 : cutNo (fs, -1, false) k (sz : Int) = 0 := by
        unfold cutNo
        simp only [hn]
        rw [if_neg (by simp), if_neg (by omega)]
      unfold aCut
      rw [h0]
      unfold stepA
      simp only [hp, hpo]
      rfl
    have hn2 : noOf (put fs k (cutv (gv fs k) sz)) false k = 0 := by
      unfold noOf
      rw [put_has hr (.inr rfl)]
      rfl
    unfold stl
    rw [if_pos rfl, hc]
    simp only
    rw [if_neg (by simp)]
    unfold aSync stepA
    simp only [hn2, hp]
    rfl
/-- behind a crash -/
theorem Bg.opened {lg : Lg} {fs : List Fil} {ends : List Nat} (h : Bg lg fs ends) (ok : Ok lg) (keep : List Int) {ps : List Nat} (hps : PsOf lg.pre ((crAll keep fs).map (·.1)) ps) :
    (gOpn lg.pre ps (aCrash (fs, 0, false) keep)).1 = 0 ∧ recsOf (gOpn lg.pre ps (aCrash (fs, 0, false) keep)).2.1 <+: recsOf lg.segs ∧ (∀ s r, (gOpn lg.pre ps (aCrash (fs, 0, false) keep)).2.1 = s :: r → s.first = gFirst lg) ∧ lg.sure ≤ ldNx (gOpn lg.pre ps (aCrash (fs, 0, false) keep)).2.1 ∧ ∃ m ∈ ends, ldNx (gOpn lg.pre ps (aCrash (fs, 0, false) keep)).2.1 = m + 1 := by
  rcases h with ⟨h1, h2, h3, h4, h5⟩ | ⟨xs, s, h1, h2, h3⟩
  · have e : ps = [] := by
      cases hp : ps with
      | nil => rfl
      | cons n t =>
        have := (hps.iff n).1 (by rw [hp]; simp)
        rw [h2] at this
        simp [crAll] at this
    subst e
    have e2 : gOpn lg.pre [] (aCrash (fs, 0, false) keep) = (0, [], aCrash (fs, 0, false) keep) := rfl
    rw [e2]
    exact ⟨rfl, List.nil_prefix, fun s r e => (by cases e), by rw [h4]; exact Nat.le_refl _, 0, h5, rfl⟩
  · have hc := ok.cn
    rw [h1] at hc
    have e : ps = (xs ++ [s]).map Sg.first := by
      refine ps_same hps.rise hc.rise (fun n => ?_)
      rw [hps.iff n, crAll_keys]
      constructor
      · rintro ⟨-, -, hm⟩
        obtain ⟨f, hf, e⟩ := List.mem_map.1 hm
        obtain ⟨x, hx, e2⟩ := h2.only f hf
        rw [e2] at e
        rw [← nam_inj e]
        exact List.mem_map_of_mem hx
      · intro hm
        obtain ⟨x, hx, rfl⟩ := List.mem_map.1 hm
        have hx' : x ∈ lg.segs := by rw [h1]; exact hx
        refine ⟨ok.low x hx', ?_, ?_⟩
        · have := hc.le x hx
          have := ok.next.2
          unfold Sg.next at *
          omega
        · rcases List.mem_append.1 hx with hx | hx
          · obtain ⟨cs, -, c2⟩ := h2.old x hx
            exact List.mem_map.2 ⟨_, c2, rfl⟩
          · rw [List.mem_singleton.1 hx]
            obtain ⟨_, _, _, _, c2, _⟩ := h2.last
            exact List.mem_map.2 ⟨_, c2, rfl⟩
    subst e
    obtain ⟨bs, j, tn, j1, b1, b2, b3, b4, k, k1, k2, k3, -⟩ := h2.loaded hc keep
    have hr := crAll_rise (keep := keep) h2.rise
    have hh : has (crAll keep fs) (nam lg.pre s.first) = true := by
      obtain ⟨_, _, _, _, c2, _⟩ := h2.last
      obtain ⟨m, hm⟩ := crAll_mem (keep := keep) c2
      exact mem_has hr hm
    have hst := stl_ok (sz := (bby s.first (bs.take j)).length) hr hh (by rw [k1]; simp only [S_size]; rw [List.length_take, Nat.min_eq_left k3]; omega) tn
    have e2 : gOpn lg.pre ((xs ++ [s]).map Sg.first) (aCrash (fs, 0, false) keep) = ((stl (aCrash (fs, 0, false) keep) (nam lg.pre s.first) (bby s.first (bs.take j)).length tn).1, xs ++ [⟨s.first, (bs.take j).flatten, (bby s.first (bs.take j)).length⟩], (stl (aCrash (fs, 0, false) keep) (nam lg.pre s.first) (bby s.first (bs.take j)).length tn).2) := by
      unfold gOpn
      rw [b4]
      simp
    rw [e2]
    refine ⟨hst, ?_, fun y r e => ?_, ?_, ?_⟩
    · rw [h1]
      simp only [recsOf, List.flatMap_append, List.flatMap_cons, List.flatMap_nil, List.append_nil]
      rw [b1.recs]
      refine (List.prefix_append_right_inj _).2 ⟨(bs.drop j).flatten, ?_⟩
      rw [← List.flatten_append, List.take_append_drop]
    · unfold gFirst
      rw [h1]
      simp only at e
      cases xs with
      | nil =>
        simp only [List.nil_append, List.cons.injEq] at e ⊢
        rw [← e.1]
      | cons z t =>
        simp only [List.cons_append, List.cons.injEq] at e ⊢
        rw [← e.1]
    · rw [ldNx_snoc]
      exact b2
    · rw [ldNx_snoc]
      exact b3
end Go.Proofs.YteifkkceldlfnaaGreatDoor
