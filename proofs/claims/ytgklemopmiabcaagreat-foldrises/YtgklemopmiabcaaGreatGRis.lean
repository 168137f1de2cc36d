/-
  Lists that rise.
-/
import Derived.Test.YtgklemopmiabcaaGreatF13Grw
namespace Go.Proofs.YtgklemopmiabcaaGreat.f13
open Go.RowKit Go.Shelf Go.Sort
open Go.Lib hiding intOf

structure Ord {κ : Type} (lt : κ → κ → Bool) : Prop where
  trans : ∀ a b c, lt a b = true → lt b c = true → lt a c = true
  tri : ∀ a b, lt a b = false → a ≠ b → lt b a = true
theorem ordU : Ord ltU := by
  refine ⟨fun a b c h1 h2 => ?_, fun a b h1 h2 => ?_⟩
  · simp only [ltU, decide_eq_true_eq] at *; omega
  · simp only [ltU, decide_eq_true_eq, decide_eq_false_iff_not] at *; omega
theorem ltP_iff {a b : Nat × Int} : ltP a b = true ↔ (a.1 < b.1 ∨ a.1 = b.1 ∧ a.2 < b.2) := by
  simp only [ltP, Bool.or_eq_true, decide_eq_true_eq, Bool.and_eq_true, beq_iff_eq]
theorem ordP : Ord ltP := by
  refine ⟨fun a b c h1 h2 => ?_, fun a b h1 h2 => ?_⟩
  · rw [ltP_iff] at *; omega
  · have h1' : ¬ (a.1 < b.1 ∨ a.1 = b.1 ∧ a.2 < b.2) := fun e => by rw [ltP_iff.2 e] at h1; cases h1
    have h3 : ¬ (a.1 = b.1 ∧ a.2 = b.2) := fun e => h2 (Prod.ext e.1 e.2)
    rw [ltP_iff]
    omega
def Up {α κ : Type} (key : α → κ) (lt : κ → κ → Bool) (l : List α) : Prop := l.Pairwise fun a b => lt (key a) (key b) = true
theorem Up.filter {α κ : Type} {key : α → κ} {lt : κ → κ → Bool} {l : List α} (h : Up key lt l) (q : α → Bool) : Up key lt (l.filter q) := h.sublist List.filter_sublist
theorem up_map {α κ : Type} {key : α → κ} {lt : κ → κ → Bool} {l : List α} : Up key lt l ↔ (l.map key).Pairwise fun a b => lt a b = true := by
  unfold Up
  rw [List.pairwise_map]
theorem chgL_key {α κ : Type} {key : α → κ} {q : α → Bool} {f : α → α} (hf : ∀ x, key (f x) = key x) : ∀ l : List α, (chgL q f l).map key = l.map key
  | [] => rfl
  | x :: t => by
    unfold chgL
    split
    · simp [hf]
    · simp [chgL_key hf t]
theorem Up.chg {α κ : Type} {key : α → κ} {lt : κ → κ → Bool} {l : List α} (h : Up key lt l) {q : α → Bool} {f : α → α} (hf : ∀ x, key (f x) = key x) : Up key lt (chgL q f l) := by
  rw [up_map, chgL_key hf, ← up_map]
  exact h
theorem Up.put {α κ : Type} [BEq κ] [LawfulBEq κ] {key : α → κ} {lt : κ → κ → Bool} (o : Ord lt) {l : List α} (h : Up key lt l) (x : α) : Up key lt (putL key lt l x) := by
  unfold putL
  split
  · rename_i i hi
    obtain ⟨hlt, he, -⟩ := List.findIdx?_eq_some_iff_getElem.1 hi
    rw [up_map, List.map_set]
    have e : key x = (l.map key)[i]'(by simpa using hlt) := by
      rw [List.getElem_map]
      exact (beq_iff_eq.1 he).symm
    rw [e, List.set_getElem_self, ← up_map]
    exact h
  · rename_i hn
    rw [List.findIdx?_eq_none_iff] at hn
    have hne : ∀ y ∈ l, key x ≠ key y := fun y hy e => by have := hn y hy; rw [e] at this; simp at this
    split
    · rename_i i hi
      obtain ⟨hlt, he, hb⟩ := List.findIdx?_eq_some_iff_getElem.1 hi
      have e0 : l = l.take i ++ l.drop i := (List.take_append_drop i l).symm
      have hp : (l.take i ++ l.drop i).Pairwise (fun a b => lt (key a) (key b) = true) := by rw [← e0]; exact h
      obtain ⟨h1, h2, h3⟩ := List.pairwise_append.1 hp
      have hbef : ∀ y ∈ l.take i, lt (key y) (key x) = true := fun y hy => by
        obtain ⟨j, hj, rfl⟩ := List.getElem_of_mem hy
        rw [List.length_take] at hj
        rw [List.getElem_take]
        refine o.tri _ _ ?_ (hne _ (List.getElem_mem _))
        have := hb j (by omega)
        simpa using this
      have haft : ∀ y ∈ l.drop i, lt (key x) (key y) = true := fun y hy => by
        have hd : l.drop i = l[i] :: l.drop (i + 1) := (List.getElem_cons_drop (h := hlt)).symm
        rw [hd] at hy h2
        rcases List.mem_cons.1 hy with rfl | hy
        · exact he
        · exact o.trans _ _ _ he ((List.pairwise_cons.1 h2).1 y hy)
      refine List.pairwise_append.2 ⟨h1, List.pairwise_cons.2 ⟨haft, h2⟩, fun a ha b hb' => ?_⟩
      rcases List.mem_cons.1 hb' with rfl | hb'
      · exact hbef a ha
      · exact h3 a ha b hb'
    · rename_i hm
      rw [List.findIdx?_eq_none_iff] at hm
      refine List.pairwise_append.2 ⟨h, List.pairwise_singleton _ _, fun a ha b hb' => ?_⟩
      rw [List.mem_singleton.1 hb']
      exact o.tri _ _ (hm a ha) (hne a ha)
structure Rs (s : St) : Prop where
  i : Up In.kk ltU s.insts
  t : Up Tk.kk ltU s.tokens
  j : Up Jb.kk ltU s.jobs
  m : Up Ms.kk ltU s.msgs
  w : Up Tm.kk ltP s.timers
  l : Up Ls.kk ltP s.listed
theorem Rs.of_e {s : St} (h : Rs s.e) : Rs s := by
  refine ⟨?_, h.t, h.j, ?_, h.w, ?_⟩
  · have := h.i; rw [up_map] at this ⊢; simp only [St.e, List.map_map] at this; exact this
  · have := h.m; rw [up_map] at this ⊢; simp only [St.e, List.map_map] at this; exact this
  · have := h.l; rw [up_map] at this ⊢; simp only [St.e, List.map_map] at this; exact this
theorem rs_s0 : Rs s0 := ⟨List.Pairwise.nil, List.Pairwise.nil, List.Pairwise.nil, List.Pairwise.nil, List.Pairwise.nil, List.Pairwise.nil⟩
theorem Rs.at {p d : Nat} {s : St} (h : Rs s) : Rs { s with pos := p, done := d } := ⟨h.i, h.t, h.j, h.m, h.w, h.l⟩
theorem Rs.wait {s : St} (h : Rs s) (q : Nat → Bool) : Rs (eWait s q) := ⟨h.i, h.t, h.j.filter _, h.m, h.w.filter _, h.l⟩
theorem Rs.eff {s : St} {r : Rc} (h : Rs s) : Rs (eff s r) := by
  refine eff_ind s r (fun _ => ?_) (fun _ => ?_) (fun _ => ?_) (fun _ => ?_) (fun _ => ?_) (fun _ => ?_) (fun _ => ?_) (fun _ => ?_) (fun _ => ?_) (fun _ => ?_) (fun _ => ?_) (fun _ => ?_) (fun _ => ?_) (fun _ => ?_) (fun _ => ?_) (fun _ => ?_) (fun _ => ?_) (fun _ => ?_) (fun _ => ?_) (fun _ => ?_) (fun _ => ?_) (fun _ => ?_) (fun _ => ?_)
  · exact ⟨h.i, h.t, h.j, h.m, h.w, h.l⟩
  · exact ⟨h.i.put ordU _, h.t, h.j, h.m, h.w, h.l⟩
  · exact ⟨h.i, h.t.put ordU _, h.j, h.m, h.w, h.l⟩
  · exact Rs.wait (s := { s with tokens := s.tokens.filter fun x => !(x.kk == r.k1) }) ⟨h.i, h.t.filter _, h.j, h.m, h.w, h.l⟩ _
  · exact ⟨h.i, h.t, h.j.put ordU _, h.m, h.w, h.l⟩
  · exact ⟨h.i, h.t, h.j.chg (fun _ => rfl), h.m, h.w, h.l⟩
  · exact ⟨h.i, h.t, h.j.chg (fun _ => rfl), h.m, h.w, h.l⟩
  · exact ⟨h.i.chg (fun _ => rfl), h.t, h.j, h.m, h.w, h.l⟩
  · exact ⟨h.i, h.t, h.j, h.m, h.w.put ordP _, h.l⟩
  · exact ⟨h.i, h.t, h.j, h.m, h.w, h.l⟩
  · exact ⟨h.i, h.t, h.j, h.m, h.w, h.l⟩
  · exact ⟨h.i, h.t.chg (fun _ => rfl), h.j, h.m, h.w, h.l⟩
  · exact ⟨h.i, h.t.chg (fun _ => rfl), h.j, h.m, h.w, h.l⟩
  · exact Rs.wait (s := { s with insts := s.insts.filter (fun x => !(x.kk == r.k1)), tokens := s.tokens.filter (fun x => !(x.inst == r.k1)) }) ⟨h.i.filter _, h.t.filter _, h.j, h.m, h.w, h.l⟩ _
  · exact Rs.wait (s := { s with insts := s.insts.filter (fun x => !(x.kk == r.k1)), tokens := s.tokens.filter (fun x => !(x.inst == r.k1)) }) ⟨h.i.filter _, h.t.filter _, h.j, h.m, h.w, h.l⟩ _
  · exact ⟨h.i, h.t, h.j, h.m, h.w, h.l⟩
  · exact ⟨h.i, h.t, h.j, h.m, h.w, h.l.put ordP _⟩
  · exact ⟨h.i, h.t, h.j, h.m.put ordU _, h.w, h.l⟩
  · exact ⟨h.i, h.t, h.j, h.m.filter _, h.w, h.l⟩
  · unfold eSending
    split
    · exact ⟨h.i, h.t, h.j, h.m.chg (fun _ => rfl), h.w, h.l.chg (fun _ => rfl)⟩
    · exact h
  · exact ⟨h.i, h.t, h.j, h.m, h.w, h.l.filter _⟩
  · unfold eMissed
    split
    · exact ⟨h.i, h.t, h.j, h.m.chg (fun _ => rfl), h.w, h.l.filter _⟩
    · exact h
  · exact h
theorem Rs.apl {ps : Nat} {s : St} {r : Rc} (h : Rs s) : Rs (apl s ps r) := by
  unfold f13.apl
  split
  · exact Rs.eff h.at
  · split
    · exact h.at
    · exact Rs.at (d := s.done) h
theorem apl_gone {ps : Nat} {s : St} {r : Rc} (c2 : r.cl = 2) (kd : r.kd = 15 ∨ r.kd = 16) : ∀ x ∈ (apl s ps r).tokens, ¬ x.inst = r.k1 := by
  unfold f13.apl
  rw [if_pos c2]
  have hg : ∀ t : St, ∀ x ∈ (eGone t r).tokens, ¬ x.inst = r.k1 := fun t x hx => by
    have h2 := (List.mem_filter.1 hx).2
    simpa using h2
  refine eff_ind (P := fun t => ∀ x ∈ t.tokens, ¬ x.inst = r.k1) _ r (fun k => by omega) (fun k => by omega) (fun k => by omega) (fun k => by omega) (fun k => by omega) (fun k => by omega) (fun k => by omega) (fun k => by omega) (fun k => by omega) (fun k => by omega) (fun k => by omega) (fun k => by omega) (fun k => by omega) (fun _ => hg _) (fun _ => hg _) (fun k => by omega) (fun k => by omega) (fun k => by omega) (fun k => by omega) (fun k => by omega) (fun k => by omega) (fun k => by omega) (fun k => by have a := k 15 (by decide); have b := k 16 (by decide); omega)
end Go.Proofs.YtgklemopmiabcaaGreat.f13
namespace Go.Proofs.YtgklemopmiabcaaGreat.f13
open Go.RowKit Go.Shelf Go.Sort
open Go.Lib hiding intOf

theorem bdN {B : Nat} {w wr : World} (h : Below B w wr) (n : Nat) : Below B w (wr.drewN n) := ⟨h.os, h.tape, h.output, h.size, h.block⟩
theorem up_next {α κ : Type} {key : α → κ} {lt : κ → κ → Bool} {l : List α} (h : Up key lt l) {j : Nat} (hj : j + 1 < l.length) : lt (key l[j]) (key l[j + 1]) = true := List.pairwise_iff_getElem.1 h j (j + 1) (by omega) hj (by omega)
def NxIn (w : World) (a : Option Addr) (n : Nat) : Prop := ∀ j : Nat, j + 1 < n → ∃ b off p q : Nat, a = some ⟨b, off, none⟩ ∧ (∀ W, Below w.heap.size w W → W.cell? ⟨b, off + j * 3, none⟩ = some (.int .u64 (p : Int)) ∧ W.cell? ⟨b, off + (j + 1) * 3, none⟩ = some (.int .u64 (q : Int))) ∧ p < q
theorem NxIn.of {w : World} {a : Option Addr} {c : Nat} {l : List In} (h : Rr 3 In.c w (.slice a l.length c) l) (u : Up In.kk ltU l) : NxIn w a l.length := by
  intro j hj
  obtain ⟨b, off, cap, e, -, -, hc⟩ := h.at hj
  injection e with e
  have hn := up_next u hj
  exact ⟨b, off, l[j].key, l[j + 1].key, e, fun W hW => ⟨hc W hW j (by omega) 0 _ rfl, hc W hW (j + 1) hj 0 _ rfl⟩, of_decide_eq_true hn⟩
def NxTk (w : World) (a : Option Addr) (n : Nat) : Prop := ∀ j : Nat, j + 1 < n → ∃ b off p q : Nat, a = some ⟨b, off, none⟩ ∧ (∀ W, Below w.heap.size w W → W.cell? ⟨b, off + j * 6, none⟩ = some (.int .u64 (p : Int)) ∧ W.cell? ⟨b, off + (j + 1) * 6, none⟩ = some (.int .u64 (q : Int))) ∧ p < q
theorem NxTk.of {w : World} {a : Option Addr} {c : Nat} {l : List Tk} (h : Rr 6 Tk.c w (.slice a l.length c) l) (u : Up Tk.kk ltU l) : NxTk w a l.length := by
  intro j hj
  obtain ⟨b, off, cap, e, -, -, hc⟩ := h.at hj
  injection e with e
  have hn := up_next u hj
  exact ⟨b, off, l[j].key, l[j + 1].key, e, fun W hW => ⟨hc W hW j (by omega) 0 _ rfl, hc W hW (j + 1) hj 0 _ rfl⟩, of_decide_eq_true hn⟩
def NxJb (w : World) (a : Option Addr) (n : Nat) : Prop := ∀ j : Nat, j + 1 < n → ∃ b off p q : Nat, a = some ⟨b, off, none⟩ ∧ (∀ W, Below w.heap.size w W → W.cell? ⟨b, off + j * 6, none⟩ = some (.int .u64 (p : Int)) ∧ W.cell? ⟨b, off + (j + 1) * 6, none⟩ = some (.int .u64 (q : Int))) ∧ p < q
theorem NxJb.of {w : World} {a : Option Addr} {c : Nat} {l : List Jb} (h : Rr 6 Jb.c w (.slice a l.length c) l) (u : Up Jb.kk ltU l) : NxJb w a l.length := by
  intro j hj
  obtain ⟨b, off, cap, e, -, -, hc⟩ := h.at hj
  injection e with e
  have hn := up_next u hj
  exact ⟨b, off, l[j].key, l[j + 1].key, e, fun W hW => ⟨hc W hW j (by omega) 0 _ rfl, hc W hW (j + 1) hj 0 _ rfl⟩, of_decide_eq_true hn⟩
def NxMs (w : World) (a : Option Addr) (n : Nat) : Prop := ∀ j : Nat, j + 1 < n → ∃ b off p q : Nat, a = some ⟨b, off, none⟩ ∧ (∀ W, Below w.heap.size w W → W.cell? ⟨b, off + j * 7, none⟩ = some (.int .u64 (p : Int)) ∧ W.cell? ⟨b, off + (j + 1) * 7, none⟩ = some (.int .u64 (q : Int))) ∧ p < q
theorem NxMs.of {w : World} {a : Option Addr} {c : Nat} {l : List Ms} (h : Rr 7 Ms.c w (.slice a l.length c) l) (u : Up Ms.kk ltU l) : NxMs w a l.length := by
  intro j hj
  obtain ⟨b, off, cap, e, -, -, hc⟩ := h.at hj
  injection e with e
  have hn := up_next u hj
  exact ⟨b, off, l[j].key, l[j + 1].key, e, fun W hW => ⟨hc W hW j (by omega) 0 _ rfl, hc W hW (j + 1) hj 0 _ rfl⟩, of_decide_eq_true hn⟩
def NxTm (w : World) (a : Option Addr) (n : Nat) : Prop := ∀ j : Nat, j + 1 < n → ∃ (b off : Nat) (p q : Tm), a = some ⟨b, off, none⟩ ∧ (∀ W, Below w.heap.size w W → (W.cell? ⟨b, off + j * 3 + 0, none⟩ = some (.int .u64 (p.token : Int)) ∧ W.cell? ⟨b, off + j * 3 + 1, none⟩ = some (.int .i64 p.node) ∧ W.cell? ⟨b, off + j * 3 + 2, none⟩ = some (.int .i64 p.at_)) ∧ (W.cell? ⟨b, off + (j + 1) * 3 + 0, none⟩ = some (.int .u64 (q.token : Int)) ∧ W.cell? ⟨b, off + (j + 1) * 3 + 1, none⟩ = some (.int .i64 q.node) ∧ W.cell? ⟨b, off + (j + 1) * 3 + 2, none⟩ = some (.int .i64 q.at_))) ∧ ltP p.kk q.kk = true
theorem NxTm.of {w : World} {a : Option Addr} {c : Nat} {l : List Tm} (h : Rr 3 Tm.c w (.slice a l.length c) l) (u : Up Tm.kk ltP l) : NxTm w a l.length := by
  intro j hj
  obtain ⟨b, off, cap, e, -, -, hc⟩ := h.at hj
  injection e with e
  have hn := up_next u hj
  exact ⟨b, off, l[j], l[j + 1], e, fun W hW => ⟨⟨hc W hW j (by omega) 0 _ rfl, hc W hW j (by omega) 1 _ rfl, hc W hW j (by omega) 2 _ rfl⟩, hc W hW (j + 1) hj 0 _ rfl, hc W hW (j + 1) hj 1 _ rfl, hc W hW (j + 1) hj 2 _ rfl⟩, hn⟩
def NxLs (w : World) (a : Option Addr) (n : Nat) : Prop := ∀ j : Nat, j + 1 < n → ∃ (b off : Nat) (p q : Ls), a = some ⟨b, off, none⟩ ∧ (∀ W, Below w.heap.size w W → (W.cell? ⟨b, off + j * 7 + 0, none⟩ = some (.int .u64 (p.token : Int)) ∧ W.cell? ⟨b, off + j * 7 + 1, none⟩ = some (.int .u64 (p.inst : Int)) ∧ W.cell? ⟨b, off + j * 7 + 2, none⟩ = some (.int .i64 p.node) ∧ W.cell? ⟨b, off + j * 7 + 3, none⟩ = some (.string (S p.name)) ∧ W.cell? ⟨b, off + j * 7 + 4, none⟩ = some (.string (S p.key)) ∧ W.cell? ⟨b, off + j * 7 + 5, none⟩ = some (.int .u64 (p.msg : Int)) ∧ W.cell? ⟨b, off + j * 7 + 6, none⟩ = some (p.vv)) ∧ (W.cell? ⟨b, off + (j + 1) * 7 + 0, none⟩ = some (.int .u64 (q.token : Int)) ∧ W.cell? ⟨b, off + (j + 1) * 7 + 1, none⟩ = some (.int .u64 (q.inst : Int)) ∧ W.cell? ⟨b, off + (j + 1) * 7 + 2, none⟩ = some (.int .i64 q.node) ∧ W.cell? ⟨b, off + (j + 1) * 7 + 3, none⟩ = some (.string (S q.name)) ∧ W.cell? ⟨b, off + (j + 1) * 7 + 4, none⟩ = some (.string (S q.key)) ∧ W.cell? ⟨b, off + (j + 1) * 7 + 5, none⟩ = some (.int .u64 (q.msg : Int)) ∧ W.cell? ⟨b, off + (j + 1) * 7 + 6, none⟩ = some (q.vv))) ∧ ltP p.kk q.kk = true ∧ (∃ a n c, p.vv = .slice a n c) ∧ (∃ a n c, q.vv = .slice a n c)
theorem NxLs.of {w : World} {a : Option Addr} {c : Nat} {l : List Ls} (h : Rr 7 Ls.c w (.slice a l.length c) l) (u : Up Ls.kk ltP l) (hv : ∀ x ∈ l, ∃ a n c, x.vv = .slice a n c) : NxLs w a l.length := by
  intro j hj
  obtain ⟨b, off, cap, e, -, -, hc⟩ := h.at hj
  injection e with e
  have hn := up_next u hj
  exact ⟨b, off, l[j], l[j + 1], e, fun W hW => ⟨⟨hc W hW j (by omega) 0 _ rfl, hc W hW j (by omega) 1 _ rfl, hc W hW j (by omega) 2 _ rfl, hc W hW j (by omega) 3 _ rfl, hc W hW j (by omega) 4 _ rfl, hc W hW j (by omega) 5 _ rfl, hc W hW j (by omega) 6 _ rfl⟩, hc W hW (j + 1) hj 0 _ rfl, hc W hW (j + 1) hj 1 _ rfl, hc W hW (j + 1) hj 2 _ rfl, hc W hW (j + 1) hj 3 _ rfl, hc W hW (j + 1) hj 4 _ rfl, hc W hW (j + 1) hj 5 _ rfl, hc W hW (j + 1) hj 6 _ rfl⟩, hn, hv _ (List.getElem_mem _), hv _ (List.getElem_mem _)⟩

set_option maxHeartbeats 16000000 in
set_option maxRecDepth 100000 in
theorem rises_core {w : World} (pos done made : Nat) (aDe : Option Addr) (nDe cDe : Nat) (aIn : Option Addr) (nIn cIn : Nat) (aTk : Option Addr) (nTk cTk : Nat) (aJb : Option Addr) (nJb cJb : Nat) (aTm : Option Addr) (nTm cTm : Nat) (aSb : Option Addr) (nSb cSb : Nat) (aKp : Option Addr) (nKp cKp : Nat) (aLs : Option Addr) (nLs cLs : Nat) (aMs : Option Addr) (nMs cMs : Nat) (zIn : nIn ≤ 4611686018427387904) (EIn : Hid (NxIn w aIn nIn)) (zTk : nTk ≤ 4611686018427387904) (ETk : Hid (NxTk w aTk nTk)) (zJb : nJb ≤ 4611686018427387904) (EJb : Hid (NxJb w aJb nJb)) (zMs : nMs ≤ 4611686018427387904) (EMs : Hid (NxMs w aMs nMs)) (zTm : nTm ≤ 4611686018427387904) (ETm : Hid (NxTm w aTm nTm)) (zLs : nLs ≤ 4611686018427387904) (ELs : Hid (NxLs w aLs nLs)) :
    Calls Tryz.prog 20 #[.agg #[.int .u64 (pos : Int), .int .u64 (done : Int), .int .u64 (made : Int), .slice aDe nDe cDe, .slice aIn nIn cIn, .slice aTk nTk cTk, .slice aJb nJb cJb, .slice aTm nTm cTm, .slice aSb nSb cSb, .slice aKp nKp cKp, .slice aLs nLs cLs, .slice aMs nMs cMs]] w fun e w' => e = .returned (.bool true) ∧ Below w.heap.size w w' := by
  have hb0 : Below w.heap.size w (w.alloc (.cells #[.int .u64 (pos : Int), .int .u64 (done : Int), .int .u64 (made : Int), .slice aDe nDe cDe, .slice aIn nIn cIn, .slice aTk nTk cTk, .slice aJb nJb cJb, .slice aTm nTm cTm, .slice aSb nSb cSb, .slice aKp nKp cKp, .slice aLs nLs cLs, .slice aMs nMs cMs] 33)) := (Below.refl _ w).alloc (Nat.le_refl _) _
  have HB : Hid (∀ W, Below (w.alloc (.cells #[.int .u64 (pos : Int), .int .u64 (done : Int), .int .u64 (made : Int), .slice aDe nDe cDe, .slice aIn nIn cIn, .slice aTk nTk cTk, .slice aJb nJb cJb, .slice aTm nTm cTm, .slice aSb nSb cSb, .slice aKp nKp cKp, .slice aLs nLs cLs, .slice aMs nMs cMs] 33)).heap.size (w.alloc (.cells #[.int .u64 (pos : Int), .int .u64 (done : Int), .int .u64 (made : Int), .slice aDe nDe cDe, .slice aIn nIn cIn, .slice aTk nTk cTk, .slice aJb nJb cJb, .slice aTm nTm cTm, .slice aSb nSb cSb, .slice aKp nKp cKp, .slice aLs nLs cLs, .slice aMs nMs cMs] 33)) W → Below w.heap.size w W) := fun W hW => bel_of hb0 hW (Nat.le_refl _)
  have HS : Hid (∀ W, Below (w.alloc (.cells #[.int .u64 (pos : Int), .int .u64 (done : Int), .int .u64 (made : Int), .slice aDe nDe cDe, .slice aIn nIn cIn, .slice aTk nTk cTk, .slice aJb nJb cJb, .slice aTm nTm cTm, .slice aSb nSb cSb, .slice aKp nKp cKp, .slice aLs nLs cLs, .slice aMs nMs cMs] 33)).heap.size (w.alloc (.cells #[.int .u64 (pos : Int), .int .u64 (done : Int), .int .u64 (made : Int), .slice aDe nDe cDe, .slice aIn nIn cIn, .slice aTk nTk cTk, .slice aJb nJb cJb, .slice aTm nTm cTm, .slice aSb nSb cSb, .slice aKp nKp cKp, .slice aLs nLs cLs, .slice aMs nMs cMs] 33)) W → ∀ (j : Nat) (u : Value), ([.int .u64 (pos : Int), .int .u64 (done : Int), .int .u64 (made : Int), .slice aDe nDe cDe, .slice aIn nIn cIn, .slice aTk nTk cTk, .slice aJb nJb cJb, .slice aTm nTm cTm, .slice aSb nSb cSb, .slice aKp nKp cKp, .slice aLs nLs cLs, .slice aMs nMs cMs] : List Value)[j]? = some u → W.cell? ⟨w.heap.size, j, none⟩ = some u) := by
    intro W hW j u hj
    refine (hW.cell (p := ⟨w.heap.size, j, none⟩) (by simp)).trans ?_
    rw [World.cell?_alloc_new]
    simpa using hj
  clear hb0
  go_enter Tryz.func20, Tryz.ntmps20
  go_wp2
  generalize (w.alloc (.cells #[.int .u64 (pos : Int), .int .u64 (done : Int), .int .u64 (made : Int), .slice aDe nDe cDe, .slice aIn nIn cIn, .slice aTk nTk cTk, .slice aJb nJb cJb, .slice aTm nTm cTm, .slice aSb nSb cSb, .slice aKp nKp cKp, .slice aLs nLs cLs, .slice aMs nMs cMs] 33)) = W1 at *
  have HW0 : Hid (Below W1.heap.size W1 W1) := Below.refl _ _
  go_loopw [3] (fun v wr => ∃ j : Nat, v = .int .i64 ((j : Int) + 1) ∧ (j + 1 ≤ nIn ∨ j = 0) ∧ Hid (Below W1.heap.size W1 wr)) (fun v _ => nIn - (intOf v).toNat)
  case atStart => exact ⟨0, by simp, .inr rfl, HW0.out⟩
  case round =>
    obtain ⟨j, rfl, hj, HW⟩ := hrel
    have c1 := HS.out wr HW.out 4 _ rfl
    by_cases hil : j + 1 < nIn
    · as_aux_lemma =>
        have hil' : (j : Int) + 1 < (nIn : Int) := by omega
        have hj0 : (0 : Int) ≤ (j : Int) := by omega
        have hj1 : (0 : Int) ≤ (j : Int) + 1 := by omega
        have hjn : (j : Int) < (nIn : Int) := by omega
        have hs0 : (j : Int) + 1 - 1 = (j : Int) := by omega
        have hw0 : IntKind.i64.wrap (j : Int) = (j : Int) := by rw [IntKind.wrap_i64]; omega
        have hw2 : IntKind.i64.wrap ((j : Int) + 1 + 1) = (j : Int) + 1 + 1 := by rw [IntKind.wrap_i64]; omega
        obtain ⟨b, off, p, q, rfl, hc, hpq⟩ := EIn.out j hil
        obtain ⟨m1, m2⟩ := hc wr (HB.out wr HW.out)
        have hle : ¬ q ≤ p := by omega
        have hlt : ¬ (q : Int) ≤ (p : Int) := by omega
        clear hc
        go_wp2
        go_quiet (fail)
        go_wp2
        go_roundw
        case rel => exact ⟨j + 1, by simp, by omega, bdN HW.out _⟩
        case measure => simp [intOf]; omega
    · as_aux_lemma =>
        have hil' : ¬ (j : Int) + 1 < (nIn : Int) := by omega
        clear hil hj EIn zIn
        have HW1 : Hid (Below W1.heap.size W1 wr) := HW.out
        clear HW
        generalize wr = wa0 at *
        go_wp2
        clear c1 hil'
        go_loopw [4] (fun v wr => ∃ j : Nat, v = .int .i64 ((j : Int) + 1) ∧ (j + 1 ≤ nTk ∨ j = 0) ∧ Hid (Below W1.heap.size W1 wr)) (fun v _ => nTk - (intOf v).toNat)
        case atStart => exact ⟨0, by simp, .inr rfl, HW1.out⟩
        case round =>
          obtain ⟨j, rfl, hj, HW⟩ := hrel
          have c1 := HS.out wr HW.out 5 _ rfl
          by_cases hil : j + 1 < nTk
          · as_aux_lemma =>
              have hil' : (j : Int) + 1 < (nTk : Int) := by omega
              have hj0 : (0 : Int) ≤ (j : Int) := by omega
              have hj1 : (0 : Int) ≤ (j : Int) + 1 := by omega
              have hjn : (j : Int) < (nTk : Int) := by omega
              have hs0 : (j : Int) + 1 - 1 = (j : Int) := by omega
              have hw0 : IntKind.i64.wrap (j : Int) = (j : Int) := by rw [IntKind.wrap_i64]; omega
              have hw2 : IntKind.i64.wrap ((j : Int) + 1 + 1) = (j : Int) + 1 + 1 := by rw [IntKind.wrap_i64]; omega
              obtain ⟨b, off, p, q, rfl, hc, hpq⟩ := ETk.out j hil
              obtain ⟨m1, m2⟩ := hc wr (HB.out wr HW.out)
              have hle : ¬ q ≤ p := by omega
              have hlt : ¬ (q : Int) ≤ (p : Int) := by omega
              clear hc
              go_wp2
              go_quiet (fail)
              go_wp2
              go_roundw
              case rel => exact ⟨j + 1, by simp, by omega, bdN HW.out _⟩
              case measure => simp [intOf]; omega
          · as_aux_lemma =>
              have hil' : ¬ (j : Int) + 1 < (nTk : Int) := by omega
              clear hil hj ETk zTk
              have HW2 : Hid (Below W1.heap.size W1 wr) := HW.out
              clear HW
              generalize wr = wa1 at *
              go_wp2
              clear c1 hil'
              go_loopw [5] (fun v wr => ∃ j : Nat, v = .int .i64 ((j : Int) + 1) ∧ (j + 1 ≤ nJb ∨ j = 0) ∧ Hid (Below W1.heap.size W1 wr)) (fun v _ => nJb - (intOf v).toNat)
              case atStart => exact ⟨0, by simp, .inr rfl, HW2.out⟩
              case round =>
                obtain ⟨j, rfl, hj, HW⟩ := hrel
                have c1 := HS.out wr HW.out 6 _ rfl
                by_cases hil : j + 1 < nJb
                · as_aux_lemma =>
                    have hil' : (j : Int) + 1 < (nJb : Int) := by omega
                    have hj0 : (0 : Int) ≤ (j : Int) := by omega
                    have hj1 : (0 : Int) ≤ (j : Int) + 1 := by omega
                    have hjn : (j : Int) < (nJb : Int) := by omega
                    have hs0 : (j : Int) + 1 - 1 = (j : Int) := by omega
                    have hw0 : IntKind.i64.wrap (j : Int) = (j : Int) := by rw [IntKind.wrap_i64]; omega
                    have hw2 : IntKind.i64.wrap ((j : Int) + 1 + 1) = (j : Int) + 1 + 1 := by rw [IntKind.wrap_i64]; omega
                    obtain ⟨b, off, p, q, rfl, hc, hpq⟩ := EJb.out j hil
                    obtain ⟨m1, m2⟩ := hc wr (HB.out wr HW.out)
                    have hle : ¬ q ≤ p := by omega
                    have hlt : ¬ (q : Int) ≤ (p : Int) := by omega
                    clear hc
                    go_wp2
                    go_quiet (fail)
                    go_wp2
                    go_roundw
                    case rel => exact ⟨j + 1, by simp, by omega, bdN HW.out _⟩
                    case measure => simp [intOf]; omega
                · as_aux_lemma =>
                    have hil' : ¬ (j : Int) + 1 < (nJb : Int) := by omega
                    clear hil hj EJb zJb
                    have HW3 : Hid (Below W1.heap.size W1 wr) := HW.out
                    clear HW
                    generalize wr = wa2 at *
                    go_wp2
                    clear c1 hil'
                    go_loopw [6] (fun v wr => ∃ j : Nat, v = .int .i64 ((j : Int) + 1) ∧ (j + 1 ≤ nMs ∨ j = 0) ∧ Hid (Below W1.heap.size W1 wr)) (fun v _ => nMs - (intOf v).toNat)
                    case atStart => exact ⟨0, by simp, .inr rfl, HW3.out⟩
                    case round =>
                      obtain ⟨j, rfl, hj, HW⟩ := hrel
                      have c1 := HS.out wr HW.out 11 _ rfl
                      by_cases hil : j + 1 < nMs
                      · as_aux_lemma =>
                          have hil' : (j : Int) + 1 < (nMs : Int) := by omega
                          have hj0 : (0 : Int) ≤ (j : Int) := by omega
                          have hj1 : (0 : Int) ≤ (j : Int) + 1 := by omega
                          have hjn : (j : Int) < (nMs : Int) := by omega
                          have hs0 : (j : Int) + 1 - 1 = (j : Int) := by omega
                          have hw0 : IntKind.i64.wrap (j : Int) = (j : Int) := by rw [IntKind.wrap_i64]; omega
                          have hw2 : IntKind.i64.wrap ((j : Int) + 1 + 1) = (j : Int) + 1 + 1 := by rw [IntKind.wrap_i64]; omega
                          obtain ⟨b, off, p, q, rfl, hc, hpq⟩ := EMs.out j hil
                          obtain ⟨m1, m2⟩ := hc wr (HB.out wr HW.out)
                          have hle : ¬ q ≤ p := by omega
                          have hlt : ¬ (q : Int) ≤ (p : Int) := by omega
                          clear hc
                          go_wp2
                          go_quiet (fail)
                          go_wp2
                          go_roundw
                          case rel => exact ⟨j + 1, by simp, by omega, bdN HW.out _⟩
                          case measure => simp [intOf]; omega
                      · as_aux_lemma =>
                          have hil' : ¬ (j : Int) + 1 < (nMs : Int) := by omega
                          clear hil hj EMs zMs
                          have HW4 : Hid (Below W1.heap.size W1 wr) := HW.out
                          clear HW
                          generalize wr = wa3 at *
                          go_wp2
                          clear c1 hil'
                          go_loopw [7] (fun v wr => ∃ j : Nat, v = .int .i64 ((j : Int) + 1) ∧ (j + 1 ≤ nTm ∨ j = 0) ∧ Hid (Below W1.heap.size W1 wr)) (fun v _ => nTm - (intOf v).toNat)
                          case atStart => exact ⟨0, by simp, .inr rfl, HW4.out⟩
                          case round =>
                            obtain ⟨j, rfl, hj, HW⟩ := hrel
                            have c1 := HS.out wr HW.out 7 _ rfl
                            by_cases hil : j + 1 < nTm
                            · as_aux_lemma =>
                                have hil' : (j : Int) + 1 < (nTm : Int) := by omega
                                have hj0 : (0 : Int) ≤ (j : Int) := by omega
                                have hj1 : (0 : Int) ≤ (j : Int) + 1 := by omega
                                have hjn : (j : Int) < (nTm : Int) := by omega
                                have hs0 : (j : Int) + 1 - 1 = (j : Int) := by omega
                                have hw0 : IntKind.i64.wrap (j : Int) = (j : Int) := by rw [IntKind.wrap_i64]; omega
                                have hw2 : IntKind.i64.wrap ((j : Int) + 1 + 1) = (j : Int) + 1 + 1 := by rw [IntKind.wrap_i64]; omega
                                obtain ⟨b, off, p, q, rfl, hc, hpq⟩ := ETm.out j hil
                                obtain ⟨p0, p1, p2⟩ := p
                                obtain ⟨q0, q1, q2⟩ := q
                                have hbA : Below W1.heap.size W1 (wr.alloc (.cells #[.int .u64 (p0 : Int), .int .i64 p1, .int .i64 p2] 75)) := HW.out.alloc HW.out.size _
                                obtain ⟨⟨m0, m1, m2⟩, -⟩ := hc wr (HB.out wr HW.out)
                                obtain ⟨-, k0, k1, k2⟩ := hc (wr.alloc (.cells #[.int .u64 (p0 : Int), .int .i64 p1, .int .i64 p2] 75)) (HB.out _ hbA)
                                have c2 := HS.out (wr.alloc (.cells #[.int .u64 (p0 : Int), .int .i64 p1, .int .i64 p2] 75)) hbA 7 _ rfl
                                simp only [Nat.add_zero] at m0 k0
                                clear hc hbA
                                simp only [Tm.kk] at hpq m0 k0 m1 k1 m2 k2
                                rw [ltP_iff] at hpq
                                simp only at hpq
                                have HW2 : Hid (Below W1.heap.size W1 ((wr.alloc (.cells #[.int .u64 (p0 : Int), .int .i64 p1, .int .i64 p2] 75)).alloc (.cells #[.int .u64 (q0 : Int), .int .i64 q1, .int .i64 q2] 75))) := (HW.out.alloc HW.out.size _).alloc (by have := HW.out.size; simp; omega) _
                                rcases hpq with hpq | ⟨hpq, hmn⟩
                                · have hle : ¬ q0 < p0 := by omega
                                  have hne : ¬ p0 = q0 := by omega
                                  have hlt : ¬ (q0 : Int) < (p0 : Int) := by omega
                                  have hneI : ¬ (p0 : Int) = (q0 : Int) := by omega
                                  go_wp2
                                  go_roundw
                                  case rel => exact ⟨j + 1, by simp, by omega, HW2.out⟩
                                  case measure => simp [intOf]; omega
                                · subst hpq
                                  have hle : ¬ p0 < p0 := by omega
                                  have hnn : ¬ q1 ≤ p1 := by omega
                                  go_wp2
                                  go_roundw
                                  case rel => exact ⟨j + 1, by simp, by omega, HW2.out⟩
                                  case measure => simp [intOf]; omega
                            · as_aux_lemma =>
                                have hil' : ¬ (j : Int) + 1 < (nTm : Int) := by omega
                                clear hil hj ETm zTm
                                have HW5 : Hid (Below W1.heap.size W1 wr) := HW.out
                                clear HW
                                generalize wr = wa4 at *
                                go_wp2
                                clear c1 hil'
                                go_loopw [10] (fun v wr => ∃ j : Nat, v = .int .i64 ((j : Int) + 1) ∧ (j + 1 ≤ nLs ∨ j = 0) ∧ Hid (Below W1.heap.size W1 wr)) (fun v _ => nLs - (intOf v).toNat)
                                case atStart => exact ⟨0, by simp, .inr rfl, HW5.out⟩
                                case round =>
                                  obtain ⟨j, rfl, hj, HW⟩ := hrel
                                  have c1 := HS.out wr HW.out 10 _ rfl
                                  by_cases hil : j + 1 < nLs
                                  · as_aux_lemma =>
                                      have hil' : (j : Int) + 1 < (nLs : Int) := by omega
                                      have hj0 : (0 : Int) ≤ (j : Int) := by omega
                                      have hj1 : (0 : Int) ≤ (j : Int) + 1 := by omega
                                      have hjn : (j : Int) < (nLs : Int) := by omega
                                      have hs0 : (j : Int) + 1 - 1 = (j : Int) := by omega
                                      have hw0 : IntKind.i64.wrap (j : Int) = (j : Int) := by rw [IntKind.wrap_i64]; omega
                                      have hw2 : IntKind.i64.wrap ((j : Int) + 1 + 1) = (j : Int) + 1 + 1 := by rw [IntKind.wrap_i64]; omega
                                      obtain ⟨b, off, p, q, rfl, hc, hpq, ⟨pa, pn, pc, hpv⟩, ⟨qa, qn, qc, hqv⟩⟩ := ELs.out j hil
                                      obtain ⟨p0, p1, p2, p3, p4, p5, p6, pv⟩ := p
                                      obtain ⟨q0, q1, q2, q3, q4, q5, q6, qv⟩ := q
                                      simp only at hpv hqv
                                      subst hpv hqv
                                      have hbA : Below W1.heap.size W1 (wr.alloc (.cells #[.int .u64 (p0 : Int), .int .u64 (p1 : Int), .int .i64 p2, .string (S p3), .string (S p4), .int .u64 (p5 : Int), .slice pa pn pc] 60)) := HW.out.alloc HW.out.size _
                                      obtain ⟨⟨m0, m1, m2, m3, m4, m5, m6⟩, -⟩ := hc wr (HB.out wr HW.out)
                                      obtain ⟨-, k0, k1, k2, k3, k4, k5, k6⟩ := hc (wr.alloc (.cells #[.int .u64 (p0 : Int), .int .u64 (p1 : Int), .int .i64 p2, .string (S p3), .string (S p4), .int .u64 (p5 : Int), .slice pa pn pc] 60)) (HB.out _ hbA)
                                      have c2 := HS.out (wr.alloc (.cells #[.int .u64 (p0 : Int), .int .u64 (p1 : Int), .int .i64 p2, .string (S p3), .string (S p4), .int .u64 (p5 : Int), .slice pa pn pc] 60)) hbA 10 _ rfl
                                      simp only [Nat.add_zero] at m0 k0
                                      clear hc hbA
                                      simp only [Ls.kk] at hpq m0 k0 m1 k1 m2 k2 m3 k3 m4 k4 m5 k5 m6 k6
                                      rw [ltP_iff] at hpq
                                      simp only at hpq
                                      have HW2 : Hid (Below W1.heap.size W1 ((wr.alloc (.cells #[.int .u64 (p0 : Int), .int .u64 (p1 : Int), .int .i64 p2, .string (S p3), .string (S p4), .int .u64 (p5 : Int), .slice pa pn pc] 60)).alloc (.cells #[.int .u64 (q0 : Int), .int .u64 (q1 : Int), .int .i64 q2, .string (S q3), .string (S q4), .int .u64 (q5 : Int), .slice qa qn qc] 60))) := (HW.out.alloc HW.out.size _).alloc (by have := HW.out.size; simp; omega) _
                                      rcases hpq with hpq | ⟨hpq, hmn⟩
                                      · have hle : ¬ q0 < p0 := by omega
                                        have hne : ¬ p0 = q0 := by omega
                                        have hlt : ¬ (q0 : Int) < (p0 : Int) := by omega
                                        have hneI : ¬ (p0 : Int) = (q0 : Int) := by omega
                                        go_wp2
                                        go_roundw
                                        case rel => exact ⟨j + 1, by simp, by omega, HW2.out⟩
                                        case measure => simp [intOf]; omega
                                      · subst hpq
                                        have hle : ¬ p0 < p0 := by omega
                                        have hnn : ¬ q2 ≤ p2 := by omega
                                        go_wp2
                                        go_roundw
                                        case rel => exact ⟨j + 1, by simp, by omega, HW2.out⟩
                                        case measure => simp [intOf]; omega
                                  · as_aux_lemma =>
                                      have hil' : ¬ (j : Int) + 1 < (nLs : Int) := by omega
                                      clear hil hj ELs zLs
                                      have HW6 : Hid (Below W1.heap.size W1 wr) := HW.out
                                      clear HW
                                      generalize wr = wa5 at *
                                      go_wp2
                                      clear c1 hil'
                                      go_ret
                                      exact ⟨rfl, HB.out _ HW6.out⟩
theorem rises_any {w : World} {t : St} (h : Sv w t) (hz : Sz t) (rs : Rs t) : Calls Tryz.prog 20 #[.agg t.c.toArray] w fun e w' => e = .returned (.bool true) ∧ Below w.heap.size w w' := by
  obtain ⟨pos, done, made, vDe, procs, vIn, insts, vTk, tokens, vJb, jobs, vTm, timers, vSb, subs, vKp, kept, vLs, listed, vMs, msgs⟩ := t
  obtain ⟨aDe, cDe, hsDe, -⟩ := id h.rDe
  simp only at hsDe
  subst hsDe
  obtain ⟨aIn, cIn, hsIn, -⟩ := id h.rIn
  simp only at hsIn
  subst hsIn
  obtain ⟨aTk, cTk, hsTk, -⟩ := id h.rTk
  simp only at hsTk
  subst hsTk
  obtain ⟨aJb, cJb, hsJb, -⟩ := id h.rJb
  simp only at hsJb
  subst hsJb
  obtain ⟨aTm, cTm, hsTm, -⟩ := id h.rTm
  simp only at hsTm
  subst hsTm
  obtain ⟨aSb, cSb, hsSb, -⟩ := id h.rSb
  simp only at hsSb
  subst hsSb
  obtain ⟨aKp, cKp, hsKp, -⟩ := id h.rKp
  simp only at hsKp
  subst hsKp
  obtain ⟨aLs, cLs, hsLs, -⟩ := id h.rLs
  simp only at hsLs
  subst hsLs
  obtain ⟨aMs, cMs, hsMs, -⟩ := id h.rMs
  simp only at hsMs
  subst hsMs
  have hsl : ∀ x ∈ listed, ∃ a n c, x.vv = .slice a n c := fun x hx => by obtain ⟨a, c, e, -⟩ := h.iLs x hx; exact ⟨a, _, c, e⟩
  exact rises_core pos done made aDe procs.length cDe aIn insts.length cIn aTk tokens.length cTk aJb jobs.length cJb aTm timers.length cTm aSb subs.length cSb aKp kept.length cKp aLs listed.length cLs aMs msgs.length cMs (by have := hz.nIn; simp only at this; omega) (NxIn.of h.rIn rs.i) (by have := hz.nTk; simp only at this; omega) (NxTk.of h.rTk rs.t) (by have := hz.nJb; simp only at this; omega) (NxJb.of h.rJb rs.j) (by have := hz.nMs; simp only at this; omega) (NxMs.of h.rMs rs.m) (by have := hz.nTm; simp only at this; omega) (NxTm.of h.rTm rs.w) (by have := hz.nLs; simp only at this; omega) (NxLs.of h.rLs rs.l hsl)
end Go.Proofs.YtgklemopmiabcaaGreat.f13
