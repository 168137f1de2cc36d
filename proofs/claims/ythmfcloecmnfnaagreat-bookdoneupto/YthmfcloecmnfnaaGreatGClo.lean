/-
  Lists in new memory, with what is within.
-/
import Derived.Test.YthmfcloecmnfnaaGreatF13Base
import Derived.Deep.RegionHeld3
import Derived.Deep.RegionWith
namespace Go.Proofs.YthmfcloecmnfnaaGreat.f13
open Go.RowKit Go.Shelf Go.Sort
open Go.Lib hiding intOf

set_option maxHeartbeats 1000000 in
set_option maxRecDepth 100000 in
theorem freshDe_any {w : World} {v : Value} {l : List De} (h : Rr 2 De.c w v l) (hn : l.length * 32 ≤ 211106232528000) :
    Calls Tryz.prog 32 #[v] w fun e w' => ∃ v', e = .returned v' ∧ w'.ownsRow w.heap.size 92 2 v' l.length (l.flatMap De.c) ∧ Below w.heap.size w w' := by
  obtain ⟨i0, hi0, hz0, hz1, hz2⟩ := info_parts infoDe
  have HR := World.ownsRow_nil w w.heap.size 92 2
  obtain ⟨a, cp, rfl, hcp, -⟩ := id h
  cases a with
  | none =>
    have hl : l = [] := List.eq_nil_of_length_eq_zero (by have := hcp.1; have := hcp.2 rfl; omega)
    subst hl
    obtain rfl := hcp.2 rfl
    have H2 : Hid (w.ownsRow w.heap.size 92 2 (.slice none 0 0) 0 []) := HR
    clear HR h
    go_enter Tryz.func32, Tryz.ntmps32
    go_wp2_with (at_builtin; refine wpList_append_own_none rfl _ _ 23 rfl w.heap.size 92 i0 2 Tryz.underlying23 hi0 _ _ _ rfl H2.out rfl ?_)
    go_ret
    exact ⟨_, rfl, H2.out, Below.refl _ _⟩
  | some ad =>
    have hcl := h.cells De.k (by decide)
    have hvl := fm_len De.k l
    have hv1 := De.one (l := l)
    have hfit : (0 + l.length + (0 + l.length) / 4 + 192) * 32 ≤ 281474976710656 := by omega
    clear h
    go_enter Tryz.func32, Tryz.ntmps32
    go_wp2_with (at_builtin; refine wpList_append_own_wide _ rfl _ _ 23 rfl w.heap.size 92 i0 _ 2 32 Tryz.underlying23 hi0 hz0 hz1 hz2 rfl (by decide) _ _ _ rfl HR ad l.length cp (l.flatMap De.c) rfl hvl hcl hv1 (by unfold maxLen; omega) hfit (by omega) ?_; intro v2 w2 hown2 hgrow2 _; have H2 : Hid (w2.ownsRow w.heap.size 92 2 v2 l.length (l.flatMap De.c) ∧ Below w.heap.size w w2) := ⟨by simpa using hown2, (Below.refl _ w).grown hgrow2 (Nat.le_refl _) (fun k hk => by cases hk)⟩; clear hown2 hgrow2 HR hcl hvl hv1)
    go_ret
    exact ⟨_, rfl, H2.out⟩

set_option maxHeartbeats 1000000 in
set_option maxRecDepth 100000 in
theorem freshIn_any {w : World} {v : Value} {l : List In} (h : Rr 3 In.c w v l) (h0 : ∀ x ∈ l, x.vv.oneCell' = true) (hn : l.length * 48 ≤ 211106232528000) :
    Calls Tryz.prog 51 #[v] w fun e w' => ∃ v', e = .returned v' ∧ w'.ownsRow w.heap.size 95 3 v' l.length (l.flatMap In.c) ∧ Below w.heap.size w w' := by
  obtain ⟨i0, hi0, hz0, hz1, hz2⟩ := info_parts infoIn
  have HR := World.ownsRow_nil w w.heap.size 95 3
  obtain ⟨a, cp, rfl, hcp, -⟩ := id h
  cases a with
  | none =>
    have hl : l = [] := List.eq_nil_of_length_eq_zero (by have := hcp.1; have := hcp.2 rfl; omega)
    subst hl
    obtain rfl := hcp.2 rfl
    have H2 : Hid (w.ownsRow w.heap.size 95 3 (.slice none 0 0) 0 []) := HR
    clear HR h
    go_enter Tryz.func51, Tryz.ntmps51
    go_wp2_with (at_builtin; refine wpList_append_own_none rfl _ _ 24 rfl w.heap.size 95 i0 3 Tryz.underlying24 hi0 _ _ _ rfl H2.out rfl ?_)
    go_ret
    exact ⟨_, rfl, H2.out, Below.refl _ _⟩
  | some ad =>
    have hcl := h.cells In.k (by decide)
    have hvl := fm_len In.k l
    have hv1 := In.one (l := l) h0
    have hfit : (0 + l.length + (0 + l.length) / 4 + 192) * 48 ≤ 281474976710656 := by omega
    clear h
    go_enter Tryz.func51, Tryz.ntmps51
    go_wp2_with (at_builtin; refine wpList_append_own_wide _ rfl _ _ 24 rfl w.heap.size 95 i0 _ 3 48 Tryz.underlying24 hi0 hz0 hz1 hz2 rfl (by decide) _ _ _ rfl HR ad l.length cp (l.flatMap In.c) rfl hvl hcl hv1 (by unfold maxLen; omega) hfit (by omega) ?_; intro v2 w2 hown2 hgrow2 _; have H2 : Hid (w2.ownsRow w.heap.size 95 3 v2 l.length (l.flatMap In.c) ∧ Below w.heap.size w w2) := ⟨by simpa using hown2, (Below.refl _ w).grown hgrow2 (Nat.le_refl _) (fun k hk => by cases hk)⟩; clear hown2 hgrow2 HR hcl hvl hv1)
    go_ret
    exact ⟨_, rfl, H2.out⟩

set_option maxHeartbeats 1000000 in
set_option maxRecDepth 100000 in
theorem freshTk_any {w : World} {v : Value} {l : List Tk} (h : Rr 6 Tk.c w v l) (hn : l.length * 56 ≤ 211106232528000) :
    Calls Tryz.prog 36 #[v] w fun e w' => ∃ v', e = .returned v' ∧ w'.ownsRow w.heap.size 66 6 v' l.length (l.flatMap Tk.c) ∧ Below w.heap.size w w' := by
  obtain ⟨i0, hi0, hz0, hz1, hz2⟩ := info_parts infoTk
  have HR := World.ownsRow_nil w w.heap.size 66 6
  obtain ⟨a, cp, rfl, hcp, -⟩ := id h
  cases a with
  | none =>
    have hl : l = [] := List.eq_nil_of_length_eq_zero (by have := hcp.1; have := hcp.2 rfl; omega)
    subst hl
    obtain rfl := hcp.2 rfl
    have H2 : Hid (w.ownsRow w.heap.size 66 6 (.slice none 0 0) 0 []) := HR
    clear HR h
    go_enter Tryz.func36, Tryz.ntmps36
    go_wp2_with (at_builtin; refine wpList_append_own_none rfl _ _ 25 rfl w.heap.size 66 i0 6 Tryz.underlying25 hi0 _ _ _ rfl H2.out rfl ?_)
    go_ret
    exact ⟨_, rfl, H2.out, Below.refl _ _⟩
  | some ad =>
    have hcl := h.cells Tk.k (by decide)
    have hvl := fm_len Tk.k l
    have hv1 := Tk.one (l := l)
    have hfit : (0 + l.length + (0 + l.length) / 4 + 192) * 56 ≤ 281474976710656 := by omega
    clear h
    go_enter Tryz.func36, Tryz.ntmps36
    go_wp2_with (at_builtin; refine wpList_append_own_wide _ rfl _ _ 25 rfl w.heap.size 66 i0 _ 6 56 Tryz.underlying25 hi0 hz0 hz1 hz2 rfl (by decide) _ _ _ rfl HR ad l.length cp (l.flatMap Tk.c) rfl hvl hcl hv1 (by unfold maxLen; omega) hfit (by omega) ?_; intro v2 w2 hown2 hgrow2 _; have H2 : Hid (w2.ownsRow w.heap.size 66 6 v2 l.length (l.flatMap Tk.c) ∧ Below w.heap.size w w2) := ⟨by simpa using hown2, (Below.refl _ w).grown hgrow2 (Nat.le_refl _) (fun k hk => by cases hk)⟩; clear hown2 hgrow2 HR hcl hvl hv1)
    go_ret
    exact ⟨_, rfl, H2.out⟩

set_option maxHeartbeats 1000000 in
set_option maxRecDepth 100000 in
theorem freshJb_any {w : World} {v : Value} {l : List Jb} (h : Rr 6 Jb.c w v l) (hn : l.length * 64 ≤ 211106232528000) :
    Calls Tryz.prog 37 #[v] w fun e w' => ∃ v', e = .returned v' ∧ w'.ownsRow w.heap.size 46 6 v' l.length (l.flatMap Jb.c) ∧ Below w.heap.size w w' := by
  obtain ⟨i0, hi0, hz0, hz1, hz2⟩ := info_parts infoJb
  have HR := World.ownsRow_nil w w.heap.size 46 6
  obtain ⟨a, cp, rfl, hcp, -⟩ := id h
  cases a with
  | none =>
    have hl : l = [] := List.eq_nil_of_length_eq_zero (by have := hcp.1; have := hcp.2 rfl; omega)
    subst hl
    obtain rfl := hcp.2 rfl
    have H2 : Hid (w.ownsRow w.heap.size 46 6 (.slice none 0 0) 0 []) := HR
    clear HR h
    go_enter Tryz.func37, Tryz.ntmps37
    go_wp2_with (at_builtin; refine wpList_append_own_none rfl _ _ 26 rfl w.heap.size 46 i0 6 Tryz.underlying26 hi0 _ _ _ rfl H2.out rfl ?_)
    go_ret
    exact ⟨_, rfl, H2.out, Below.refl _ _⟩
  | some ad =>
    have hcl := h.cells Jb.k (by decide)
    have hvl := fm_len Jb.k l
    have hv1 := Jb.one (l := l)
    have hfit : (0 + l.length + (0 + l.length) / 4 + 192) * 64 ≤ 281474976710656 := by omega
    clear h
    go_enter Tryz.func37, Tryz.ntmps37
    go_wp2_with (at_builtin; refine wpList_append_own_wide _ rfl _ _ 26 rfl w.heap.size 46 i0 _ 6 64 Tryz.underlying26 hi0 hz0 hz1 hz2 rfl (by decide) _ _ _ rfl HR ad l.length cp (l.flatMap Jb.c) rfl hvl hcl hv1 (by unfold maxLen; omega) hfit (by omega) ?_; intro v2 w2 hown2 hgrow2 _; have H2 : Hid (w2.ownsRow w.heap.size 46 6 v2 l.length (l.flatMap Jb.c) ∧ Below w.heap.size w w2) := ⟨by simpa using hown2, (Below.refl _ w).grown hgrow2 (Nat.le_refl _) (fun k hk => by cases hk)⟩; clear hown2 hgrow2 HR hcl hvl hv1)
    go_ret
    exact ⟨_, rfl, H2.out⟩

set_option maxHeartbeats 1000000 in
set_option maxRecDepth 100000 in
theorem freshTm_any {w : World} {v : Value} {l : List Tm} (h : Rr 3 Tm.c w v l) (hn : l.length * 24 ≤ 211106232528000) :
    Calls Tryz.prog 38 #[v] w fun e w' => ∃ v', e = .returned v' ∧ w'.ownsRow w.heap.size 70 3 v' l.length (l.flatMap Tm.c) ∧ Below w.heap.size w w' := by
  obtain ⟨i0, hi0, hz0, hz1, hz2⟩ := info_parts infoTm
  have HR := World.ownsRow_nil w w.heap.size 70 3
  obtain ⟨a, cp, rfl, hcp, -⟩ := id h
  cases a with
  | none =>
    have hl : l = [] := List.eq_nil_of_length_eq_zero (by have := hcp.1; have := hcp.2 rfl; omega)
    subst hl
    obtain rfl := hcp.2 rfl
    have H2 : Hid (w.ownsRow w.heap.size 70 3 (.slice none 0 0) 0 []) := HR
    clear HR h
    go_enter Tryz.func38, Tryz.ntmps38
    go_wp2_with (at_builtin; refine wpList_append_own_none rfl _ _ 27 rfl w.heap.size 70 i0 3 Tryz.underlying27 hi0 _ _ _ rfl H2.out rfl ?_)
    go_ret
    exact ⟨_, rfl, H2.out, Below.refl _ _⟩
  | some ad =>
    have hcl := h.cells Tm.k (by decide)
    have hvl := fm_len Tm.k l
    have hv1 := Tm.one (l := l)
    have hfit : (0 + l.length + (0 + l.length) / 4 + 192) * 24 ≤ 281474976710656 := by omega
    clear h
    go_enter Tryz.func38, Tryz.ntmps38
    go_wp2_with (at_builtin; refine wpList_append_own_wide _ rfl _ _ 27 rfl w.heap.size 70 i0 _ 3 24 Tryz.underlying27 hi0 hz0 hz1 hz2 rfl (by decide) _ _ _ rfl HR ad l.length cp (l.flatMap Tm.c) rfl hvl hcl hv1 (by unfold maxLen; omega) hfit (by omega) ?_; intro v2 w2 hown2 hgrow2 _; have H2 : Hid (w2.ownsRow w.heap.size 70 3 v2 l.length (l.flatMap Tm.c) ∧ Below w.heap.size w w2) := ⟨by simpa using hown2, (Below.refl _ w).grown hgrow2 (Nat.le_refl _) (fun k hk => by cases hk)⟩; clear hown2 hgrow2 HR hcl hvl hv1)
    go_ret
    exact ⟨_, rfl, H2.out⟩

set_option maxHeartbeats 1000000 in
set_option maxRecDepth 100000 in
theorem freshSb_any {w : World} {v : Value} {l : List Sb} (h : Rr 6 Sb.c w v l) (hn : l.length * 64 ≤ 211106232528000) :
    Calls Tryz.prog 39 #[v] w fun e w' => ∃ v', e = .returned v' ∧ w'.ownsRow w.heap.size 107 6 v' l.length (l.flatMap Sb.c) ∧ Below w.heap.size w w' := by
  obtain ⟨i0, hi0, hz0, hz1, hz2⟩ := info_parts infoSb
  have HR := World.ownsRow_nil w w.heap.size 107 6
  obtain ⟨a, cp, rfl, hcp, -⟩ := id h
  cases a with
  | none =>
    have hl : l = [] := List.eq_nil_of_length_eq_zero (by have := hcp.1; have := hcp.2 rfl; omega)
    subst hl
    obtain rfl := hcp.2 rfl
    have H2 : Hid (w.ownsRow w.heap.size 107 6 (.slice none 0 0) 0 []) := HR
    clear HR h
    go_enter Tryz.func39, Tryz.ntmps39
    go_wp2_with (at_builtin; refine wpList_append_own_none rfl _ _ 28 rfl w.heap.size 107 i0 6 Tryz.underlying28 hi0 _ _ _ rfl H2.out rfl ?_)
    go_ret
    exact ⟨_, rfl, H2.out, Below.refl _ _⟩
  | some ad =>
    have hcl := h.cells Sb.k (by decide)
    have hvl := fm_len Sb.k l
    have hv1 := Sb.one (l := l)
    have hfit : (0 + l.length + (0 + l.length) / 4 + 192) * 64 ≤ 281474976710656 := by omega
    clear h
    go_enter Tryz.func39, Tryz.ntmps39
    go_wp2_with (at_builtin; refine wpList_append_own_wide _ rfl _ _ 28 rfl w.heap.size 107 i0 _ 6 64 Tryz.underlying28 hi0 hz0 hz1 hz2 rfl (by decide) _ _ _ rfl HR ad l.length cp (l.flatMap Sb.c) rfl hvl hcl hv1 (by unfold maxLen; omega) hfit (by omega) ?_; intro v2 w2 hown2 hgrow2 _; have H2 : Hid (w2.ownsRow w.heap.size 107 6 v2 l.length (l.flatMap Sb.c) ∧ Below w.heap.size w w2) := ⟨by simpa using hown2, (Below.refl _ w).grown hgrow2 (Nat.le_refl _) (fun k hk => by cases hk)⟩; clear hown2 hgrow2 HR hcl hvl hv1)
    go_ret
    exact ⟨_, rfl, H2.out⟩

set_option maxHeartbeats 1000000 in
set_option maxRecDepth 100000 in
theorem freshKp_any {w : World} {v : Value} {l : List Kp} (h : Rr 3 Kp.c w v l) (hn : l.length * 24 ≤ 211106232528000) :
    Calls Tryz.prog 40 #[v] w fun e w' => ∃ v', e = .returned v' ∧ w'.ownsRow w.heap.size 110 3 v' l.length (l.flatMap Kp.c) ∧ Below w.heap.size w w' := by
  obtain ⟨i0, hi0, hz0, hz1, hz2⟩ := info_parts infoKp
  have HR := World.ownsRow_nil w w.heap.size 110 3
  obtain ⟨a, cp, rfl, hcp, -⟩ := id h
  cases a with
  | none =>
    have hl : l = [] := List.eq_nil_of_length_eq_zero (by have := hcp.1; have := hcp.2 rfl; omega)
    subst hl
    obtain rfl := hcp.2 rfl
    have H2 : Hid (w.ownsRow w.heap.size 110 3 (.slice none 0 0) 0 []) := HR
    clear HR h
    go_enter Tryz.func40, Tryz.ntmps40
    go_wp2_with (at_builtin; refine wpList_append_own_none rfl _ _ 29 rfl w.heap.size 110 i0 3 Tryz.underlying29 hi0 _ _ _ rfl H2.out rfl ?_)
    go_ret
    exact ⟨_, rfl, H2.out, Below.refl _ _⟩
  | some ad =>
    have hcl := h.cells Kp.k (by decide)
    have hvl := fm_len Kp.k l
    have hv1 := Kp.one (l := l)
    have hfit : (0 + l.length + (0 + l.length) / 4 + 192) * 24 ≤ 281474976710656 := by omega
    clear h
    go_enter Tryz.func40, Tryz.ntmps40
    go_wp2_with (at_builtin; refine wpList_append_own_wide _ rfl _ _ 29 rfl w.heap.size 110 i0 _ 3 24 Tryz.underlying29 hi0 hz0 hz1 hz2 rfl (by decide) _ _ _ rfl HR ad l.length cp (l.flatMap Kp.c) rfl hvl hcl hv1 (by unfold maxLen; omega) hfit (by omega) ?_; intro v2 w2 hown2 hgrow2 _; have H2 : Hid (w2.ownsRow w.heap.size 110 3 v2 l.length (l.flatMap Kp.c) ∧ Below w.heap.size w w2) := ⟨by simpa using hown2, (Below.refl _ w).grown hgrow2 (Nat.le_refl _) (fun k hk => by cases hk)⟩; clear hown2 hgrow2 HR hcl hvl hv1)
    go_ret
    exact ⟨_, rfl, H2.out⟩

set_option maxHeartbeats 1000000 in
set_option maxRecDepth 100000 in
theorem freshLs_any {w : World} {v : Value} {l : List Ls} (h : Rr 7 Ls.c w v l) (h0 : ∀ x ∈ l, x.vv.oneCell' = true) (hn : l.length * 88 ≤ 211106232528000) :
    Calls Tryz.prog 52 #[v] w fun e w' => ∃ v', e = .returned v' ∧ w'.ownsRow w.heap.size 113 7 v' l.length (l.flatMap Ls.c) ∧ Below w.heap.size w w' := by
  obtain ⟨i0, hi0, hz0, hz1, hz2⟩ := info_parts infoLs
  have HR := World.ownsRow_nil w w.heap.size 113 7
  obtain ⟨a, cp, rfl, hcp, -⟩ := id h
  cases a with
  | none =>
    have hl : l = [] := List.eq_nil_of_length_eq_zero (by have := hcp.1; have := hcp.2 rfl; omega)
    subst hl
    obtain rfl := hcp.2 rfl
    have H2 : Hid (w.ownsRow w.heap.size 113 7 (.slice none 0 0) 0 []) := HR
    clear HR h
    go_enter Tryz.func52, Tryz.ntmps52
    go_wp2_with (at_builtin; refine wpList_append_own_none rfl _ _ 30 rfl w.heap.size 113 i0 7 Tryz.underlying30 hi0 _ _ _ rfl H2.out rfl ?_)
    go_ret
    exact ⟨_, rfl, H2.out, Below.refl _ _⟩
  | some ad =>
    have hcl := h.cells Ls.k (by decide)
    have hvl := fm_len Ls.k l
    have hv1 := Ls.one (l := l) h0
    have hfit : (0 + l.length + (0 + l.length) / 4 + 192) * 88 ≤ 281474976710656 := by omega
    clear h
    go_enter Tryz.func52, Tryz.ntmps52
    go_wp2_with (at_builtin; refine wpList_append_own_wide _ rfl _ _ 30 rfl w.heap.size 113 i0 _ 7 88 Tryz.underlying30 hi0 hz0 hz1 hz2 rfl (by decide) _ _ _ rfl HR ad l.length cp (l.flatMap Ls.c) rfl hvl hcl hv1 (by unfold maxLen; omega) hfit (by omega) ?_; intro v2 w2 hown2 hgrow2 _; have H2 : Hid (w2.ownsRow w.heap.size 113 7 v2 l.length (l.flatMap Ls.c) ∧ Below w.heap.size w w2) := ⟨by simpa using hown2, (Below.refl _ w).grown hgrow2 (Nat.le_refl _) (fun k hk => by cases hk)⟩; clear hown2 hgrow2 HR hcl hvl hv1)
    go_ret
    exact ⟨_, rfl, H2.out⟩

set_option maxHeartbeats 1000000 in
set_option maxRecDepth 100000 in
theorem freshMs_any {w : World} {v : Value} {l : List Ms} (h : Rr 7 Ms.c w v l) (h0 : ∀ x ∈ l, x.vv.oneCell' = true) (h1 : ∀ x ∈ l, x.iv.oneCell' = true) (hn : l.length * 112 ≤ 211106232528000) :
    Calls Tryz.prog 53 #[v] w fun e w' => ∃ v', e = .returned v' ∧ w'.ownsRow w.heap.size 74 7 v' l.length (l.flatMap Ms.c) ∧ Below w.heap.size w w' := by
  obtain ⟨i0, hi0, hz0, hz1, hz2⟩ := info_parts infoMs
  have HR := World.ownsRow_nil w w.heap.size 74 7
  obtain ⟨a, cp, rfl, hcp, -⟩ := id h
  cases a with
  | none =>
    have hl : l = [] := List.eq_nil_of_length_eq_zero (by have := hcp.1; have := hcp.2 rfl; omega)
    subst hl
    obtain rfl := hcp.2 rfl
    have H2 : Hid (w.ownsRow w.heap.size 74 7 (.slice none 0 0) 0 []) := HR
    clear HR h
    go_enter Tryz.func53, Tryz.ntmps53
    go_wp2_with (at_builtin; refine wpList_append_own_none rfl _ _ 31 rfl w.heap.size 74 i0 7 Tryz.underlying31 hi0 _ _ _ rfl H2.out rfl ?_)
    go_ret
    exact ⟨_, rfl, H2.out, Below.refl _ _⟩
  | some ad =>
    have hcl := h.cells Ms.k (by decide)
    have hvl := fm_len Ms.k l
    have hv1 := Ms.one (l := l) h0 h1
    have hfit : (0 + l.length + (0 + l.length) / 4 + 192) * 112 ≤ 281474976710656 := by omega
    clear h
    go_enter Tryz.func53, Tryz.ntmps53
    go_wp2_with (at_builtin; refine wpList_append_own_wide _ rfl _ _ 31 rfl w.heap.size 74 i0 _ 7 112 Tryz.underlying31 hi0 hz0 hz1 hz2 rfl (by decide) _ _ _ rfl HR ad l.length cp (l.flatMap Ms.c) rfl hvl hcl hv1 (by unfold maxLen; omega) hfit (by omega) ?_; intro v2 w2 hown2 hgrow2 _; have H2 : Hid (w2.ownsRow w.heap.size 74 7 v2 l.length (l.flatMap Ms.c) ∧ Below w.heap.size w w2) := ⟨by simpa using hown2, (Below.refl _ w).grown hgrow2 (Nat.le_refl _) (fun k hk => by cases hk)⟩; clear hown2 hgrow2 HR hcl hvl hv1)
    go_ret
    exact ⟨_, rfl, H2.out⟩

set_option maxHeartbeats 1000000 in
set_option maxRecDepth 100000 in
theorem freshVr_any {w : World} {v : Value} {l : List Vr} (h : Rr 4 Vr.c w v l) (hn : l.length * 48 ≤ 211106232528000) :
    Calls Tryz.prog 35 #[v] w fun e w' => ∃ v', e = .returned v' ∧ w'.ownsRow w.heap.size 101 4 v' l.length (l.flatMap Vr.c) ∧ Below w.heap.size w w' := by
  obtain ⟨i0, hi0, hz0, hz1, hz2⟩ := info_parts infoVr
  have HR := World.ownsRow_nil w w.heap.size 101 4
  obtain ⟨a, cp, rfl, hcp, -⟩ := id h
  cases a with
  | none =>
    have hl : l = [] := List.eq_nil_of_length_eq_zero (by have := hcp.1; have := hcp.2 rfl; omega)
    subst hl
    obtain rfl := hcp.2 rfl
    have H2 : Hid (w.ownsRow w.heap.size 101 4 (.slice none 0 0) 0 []) := HR
    clear HR h
    go_enter Tryz.func35, Tryz.ntmps35
    go_wp2_with (at_builtin; refine wpList_append_own_none rfl _ _ 61 rfl w.heap.size 101 i0 4 Tryz.underlying61 hi0 _ _ _ rfl H2.out rfl ?_)
    go_ret
    exact ⟨_, rfl, H2.out, Below.refl _ _⟩
  | some ad =>
    have hcl := h.cells Vr.k (by decide)
    have hvl := fm_len Vr.k l
    have hv1 := Vr.one (l := l)
    have hfit : (0 + l.length + (0 + l.length) / 4 + 192) * 48 ≤ 281474976710656 := by omega
    clear h
    go_enter Tryz.func35, Tryz.ntmps35
    go_wp2_with (at_builtin; refine wpList_append_own_wide _ rfl _ _ 61 rfl w.heap.size 101 i0 _ 4 48 Tryz.underlying61 hi0 hz0 hz1 hz2 rfl (by decide) _ _ _ rfl HR ad l.length cp (l.flatMap Vr.c) rfl hvl hcl hv1 (by unfold maxLen; omega) hfit (by omega) ?_; intro v2 w2 hown2 hgrow2 _; have H2 : Hid (w2.ownsRow w.heap.size 101 4 v2 l.length (l.flatMap Vr.c) ∧ Below w.heap.size w w2) := ⟨by simpa using hown2, (Below.refl _ w).grown hgrow2 (Nat.le_refl _) (fun k hk => by cases hk)⟩; clear hown2 hgrow2 HR hcl hvl hv1)
    go_ret
    exact ⟨_, rfl, H2.out⟩

set_option maxHeartbeats 1000000 in
set_option maxRecDepth 100000 in
theorem freshUn_any {w : World} {v : Value} {l : List Un} (h : Rr 1 Un.c w v l) (hn : l.length * 8 ≤ 211106232528000) :
    Calls Tryz.prog 45 #[v] w fun e w' => ∃ v', e = .returned v' ∧ w'.ownsRow w.heap.size 22 1 v' l.length (l.flatMap Un.c) ∧ Below w.heap.size w w' := by
  obtain ⟨i0, hi0, hz0, hz1, hz2⟩ := info_parts infoUn
  have HR := World.ownsRow_nil w w.heap.size 22 1
  obtain ⟨a, cp, rfl, hcp, -⟩ := id h
  cases a with
  | none =>
    have hl : l = [] := List.eq_nil_of_length_eq_zero (by have := hcp.1; have := hcp.2 rfl; omega)
    subst hl
    obtain rfl := hcp.2 rfl
    have H2 : Hid (w.ownsRow w.heap.size 22 1 (.slice none 0 0) 0 []) := HR
    clear HR h
    go_enter Tryz.func45, Tryz.ntmps45
    go_wp2_with (at_builtin; refine wpList_append_own_none rfl _ _ 72 rfl w.heap.size 22 i0 1 Tryz.underlying72 hi0 _ _ _ rfl H2.out rfl ?_)
    go_ret
    exact ⟨_, rfl, H2.out, Below.refl _ _⟩
  | some ad =>
    have hcl := h.cells Un.k (by decide)
    have hvl := fm_len Un.k l
    have hv1 := Un.one (l := l)
    have hfit : (0 + l.length + (0 + l.length) / 4 + 192) * 8 ≤ 281474976710656 := by omega
    clear h
    go_enter Tryz.func45, Tryz.ntmps45
    go_wp2_with (at_builtin; refine wpList_append_own_wide _ rfl _ _ 72 rfl w.heap.size 22 i0 _ 1 8 Tryz.underlying72 hi0 hz0 hz1 hz2 rfl (by decide) _ _ _ rfl HR ad l.length cp (l.flatMap Un.c) rfl hvl hcl hv1 (by unfold maxLen; omega) hfit (by omega) ?_; intro v2 w2 hown2 hgrow2 _; have H2 : Hid (w2.ownsRow w.heap.size 22 1 v2 l.length (l.flatMap Un.c) ∧ Below w.heap.size w w2) := ⟨by simpa using hown2, (Below.refl _ w).grown hgrow2 (Nat.le_refl _) (fun k hk => by cases hk)⟩; clear hown2 hgrow2 HR hcl hvl hv1)
    go_ret
    exact ⟨_, rfl, H2.out⟩
end Go.Proofs.YthmfcloecmnfnaaGreat.f13
namespace Go.Proofs.YthmfcloecmnfnaaGreat.f13
open Go.RowKit Go.Shelf Go.Sort
open Go.Lib hiding intOf

theorem set_mid {α : Type} {M R : List α} {x y : α} {i : Nat} (hi : M.length = i) : (M ++ x :: R).set i y = (M ++ [y]) ++ R := by
  subst hi
  rw [List.set_append_right _ _ (Nat.le_refl _), Nat.sub_self, List.set_cons_zero, List.append_assoc, List.singleton_append]
theorem row_any {w : World} {B n : Nat} {t : TypeId} {k : Nat} {v : Value} {cs : List Value} (h : w.ownsRow B t k v n cs) (hn : 0 < n) : ∃ g cap, v = .slice (some ⟨g, 0, none⟩) n cap ∧ n ≤ cap := by
  rcases h.2 with ⟨-, h0⟩ | ⟨g, cap, cur, e, _, _, hnc, _⟩
  · omega
  · exact ⟨g, cap, e, hnc⟩
theorem ch_cell (w : World) (g i : Nat) (u : Value) : Ch (fun b => (some g : Option Nat) = some b) w (w.setCell ⟨g, i, none⟩ u) := (Ch.refl _ w).setCell ⟨g, i, none⟩ u (fun _ => rfl)

set_option maxHeartbeats 1000000 in
theorem clIn_any {w : World} {b q : Nat} {v : Value} {l : List Vr} (h0 : w.cell? ⟨b, q + 2, none⟩ = some v) (hf : w.frozen? ⟨b, q + 2, none⟩ = false) (hv : Rr 4 Vr.c w v l) (hn : l.length * 48 ≤ 211106232528000) :
    Calls Tryz.prog 34 #[.pointer (some ⟨b, q, none⟩)] w fun e w' => e = .returned (.tuple #[]) ∧ ∃ v' w1, w' = w1.setCell ⟨b, q + 2, none⟩ v' ∧ w1.ownsRow w.heap.size 101 4 v' l.length (l.flatMap Vr.c) ∧ Below w.heap.size w w1 := by
  have CF := freshVr_any hv hn
  have hb := World.block_lt_of_cell? w _ h0
  obtain ⟨a, cap, rfl, -⟩ := id hv
  clear hv
  go_enter Tryz.func34, Tryz.ntmps34
  go_wp2_with (go_at_call 35; refine CF.mono ?_; rintro e w1 ⟨v1, rfl, r1, b1⟩; obtain ⟨a1, c1, rfl, -⟩ := row_slice r1; have m1 := (b1.cell (p := ⟨b, q + 2, none⟩) hb).trans h0; have f1 := (b1.frozen (p := ⟨b, q + 2, none⟩) hb).trans hf; (have H1 : Hid (w1.ownsRow w.heap.size 101 4 (.slice a1 l.length c1) l.length (l.flatMap Vr.c) ∧ Below w.heap.size w w1) := ⟨r1, b1⟩); clear b1 r1 CF h0 hf)
  go_end0
  exact ⟨rfl, _, w1, rfl, H1.out⟩
/-- one element more has a list of its own -/
theorem In.step {B : Nat} {w w1 : World} {g cap i n : Nat} {M : List In} {l : List In} {v' : Value} (hi : i < l.length) (hM : M.length = i) (hn : l.length = n) (h : Own B w (In.rw (.slice (some ⟨g, 0, none⟩) n cap) (M ++ l.drop i) :: M.map In.r)) (hb : Below w.heap.size w w1) (hr : w1.ownsRow w.heap.size 101 4 v' l[i].vars.length (l[i].vars.flatMap Vr.c)) (hB : B ≤ w.heap.size) :
    Own B (w1.setCell ⟨g, i * 3 + 2, none⟩ v') (In.rw (.slice (some ⟨g, 0, none⟩) n cap) ((M ++ [{ l[i] with vv := v' }]) ++ l.drop (i + 1)) :: (M ++ [{ l[i] with vv := v' }]).map In.r) := by
  have hd : l.drop i = l[i] :: l.drop (i + 1) := (List.getElem_cons_drop (h := hi)).symm
  have h1 := h.add (r := In.r { l[i] with vv := v' }) hb hr hB
  have h2 := h1.perm (List.Perm.swap _ _ _)
  have hl : (M ++ l.drop i).length = n := by rw [List.length_append, List.length_drop]; omega
  have hg := h2.own _ (List.mem_cons_self ..)
  have e1 : ((M ++ l.drop i).flatMap In.c).set (i * 3 + 2) v' = ((M ++ [{ l[i] with vv := v' }]) ++ l.drop (i + 1)).flatMap In.c := by
    rw [fm_set In.k (M ++ l.drop i) i 2 (by omega) (by omega) { l[i] with vv := v' } v' (by rw [List.getElem_append_right (by omega)]; simp [hM, In.c])]
    rw [hd, set_mid hM]
  have hg' : w1.ownsRow B 95 3 (.slice (some ⟨g, 0, none⟩) n cap) n ((M ++ l.drop i).flatMap In.c) := by
    have := hg
    unfold Rw.ok In.rw at this
    rw [hl] at this
    exact this
  have h3 := h2.turn (r' := In.rw (.slice (some ⟨g, 0, none⟩) n cap) ((M ++ [{ l[i] with vv := v' }]) ++ l.drop (i + 1))) (ch_cell w1 g (i * 3 + 2) v') (by
    unfold Rw.ok In.rw
    have := row_put hg' (i * 3 + 2) v'
    rw [e1] at this
    have hl2 : ((M ++ [{ l[i] with vv := v' }]) ++ l.drop (i + 1)).length = n := by simp; omega
    rw [hl2]
    exact this) (fun b hb => .inl hb)
  refine h3.perm (List.Perm.cons _ ?_)
  rw [List.map_append, List.map_cons, List.map_nil]
  exact (List.perm_append_singleton _ _).symm
set_option maxHeartbeats 1000000 in
set_option maxRecDepth 100000 in
theorem withinIn_any {w : World} {v : Value} {l : List In} (h : Rr 3 In.c w v l) (hn : l.length * 48 ≤ 211106232528000) (hi : ∀ x ∈ l, Rr 4 Vr.c w x.vv x.vars) (hm : ∀ x ∈ l, x.vars.length * 48 ≤ 211106232528000) :
    Calls Tryz.prog 33 #[v, .func (.func 34) #[] #[]] w fun e w' => ∃ v' M, e = .returned v' ∧ M.map In.e = l.map In.e ∧ Own w.heap.size w' (In.rw v' M :: M.map In.r) ∧ Below w.heap.size w w' := by
  have CF := freshIn_any h (fun x hx => (hi x hx).oneCell) hn
  have HI : Hid (∀ x ∈ l, Rr 4 Vr.c w x.vv x.vars) := hi
  have hl : l.length ≤ 4611686018427387904 := by omega
  obtain ⟨a, cap, rfl, -⟩ := h
  clear hi
  go_enter Tryz.func33, Tryz.ntmps33
  go_wp2_with (go_at_call 51; refine CF.mono ?_; rintro e w1 ⟨v1, rfl, r1, b1⟩; obtain ⟨a1, c1, hs1, -, hc1, -⟩ := row_slice r1; (have H1 : Hid (Own w.heap.size w1 (In.rw v1 ([] ++ l.drop 0) :: ([] : List In).map In.r) ∧ Below w.heap.size w w1) := ⟨⟨fun r hr => by rw [List.mem_singleton.1 hr]; exact r1, List.pairwise_singleton _ _⟩, b1⟩); clear b1 r1 CF; rw [hs1] at H1; rw [hs1]; clear hs1 v1)
  go_loopw [10] (fun v10 wr => ∃ i : Nat, v10 = .int .i64 (i : Int) ∧ i ≤ l.length ∧ Hid (∃ M : List In, M.length = i ∧ M.map In.e = (l.take i).map In.e ∧ Own w.heap.size wr (In.rw (.slice a1 l.length c1) (M ++ l.drop i) :: M.map In.r) ∧ Below w.heap.size w wr)) (fun v10 _ => l.length - (intOf v10).toNat)
  case atStart => exact ⟨0, rfl, Nat.zero_le _, [], rfl, rfl, H1.out⟩
  case round =>
    clear H1
    obtain ⟨i, rfl, hil, HM⟩ := hrel
    by_cases hlt : i < l.length
    · have hlt' : (i : Int) < (l.length : Int) := by omega
      have hi0 : (0 : Int) ≤ (i : Int) := by omega
      obtain ⟨M, hM, hMe, hO, hB⟩ := HM.out
      have hrow := hO.own _ (List.mem_cons_self ..)
      unfold Rw.ok In.rw at hrow
      have hlen : (M ++ l.drop i).length = l.length := by rw [List.length_append, List.length_drop]; omega
      simp only [hlen] at hrow
      obtain ⟨g, cap', hsl, -⟩ := row_any hrow (by omega)
      obtain ⟨rfl, rfl⟩ : a1 = some ⟨g, 0, none⟩ ∧ c1 = cap' := by injection hsl with e1 _ e2; exact ⟨e1, e2⟩
      have hx : (M ++ l.drop i)[i]? = some l[i] := by rw [List.getElem?_append_right (by omega), hM, Nat.sub_self, List.getElem?_drop, Nat.add_zero, List.getElem?_eq_getElem hlt]
      have m0 : wr.cell? ⟨g, i * 3 + 2, none⟩ = some l[i].vv := row_cell hrow (by rw [fm_get In.k _ i 2 (by omega), hx]; rfl)
      have f0 := row_fro hrow (i * 3 + 2)
      have CC := clIn_any (b := g) (q := i * 3) m0 f0 ((HI.out l[i] (List.getElem_mem hlt)).up hB) (hm l[i] (List.getElem_mem hlt))
      have HST : Hid (∀ (v' : Value) (w1 : World), w1.ownsRow wr.heap.size 101 4 v' l[i].vars.length (l[i].vars.flatMap Vr.c) → Below wr.heap.size wr w1 → ∃ M' : List In, M'.length = i + 1 ∧ M'.map In.e = (l.take (i + 1)).map In.e ∧ Own w.heap.size (w1.setCell ⟨g, i * 3 + 2, none⟩ v') (In.rw (.slice (some ⟨g, 0, none⟩) l.length c1) (M' ++ l.drop (i + 1)) :: M'.map In.r) ∧ Below w.heap.size w (w1.setCell ⟨g, i * 3 + 2, none⟩ v')) := by
        intro v' w1 hr1 hb1
        refine ⟨M ++ [{ l[i] with vv := v' }], by simp [hM], ?_, In.step hlt hM rfl hO hb1 hr1 hB.size, ?_⟩
        · rw [List.map_append, hMe, List.take_succ_eq_append_getElem hlt, List.map_append]; rfl
        · have hg := row_lt hrow
          exact (bel_of hB hb1 (Nat.le_refl _)).trans ((Ch.refl (fun b => b = g) w1).setCell ⟨g, i * 3 + 2, none⟩ v' (fun _ => rfl) |>.below (by have := hB.size; have := hb1.size; omega) (fun k hk e => by omega))
      clear hO hB hrow hx m0 f0 hMe hM HM hlen
      generalize l[i] = x at *
      go_wp2_with (go_at_call 34; refine CC.mono ?_; rintro e w2 ⟨rfl, v', w3, rfl, hr3, hb3⟩; (have H3 : Hid _ := HST.out v' w3 hr3 hb3); clear CC HST hr3 hb3)
      go_roundw
      case rel => exact ⟨i + 1, by simp, by omega, H3.out⟩
      case measure => simp [intOf]; omega
    · have hlt' : ¬ (i : Int) < (l.length : Int) := by omega
      obtain rfl : i = l.length := by omega
      have H4 : Hid (∃ M : List In, M.map In.e = l.map In.e ∧ Own w.heap.size wr (In.rw (.slice a1 l.length c1) M :: M.map In.r) ∧ Below w.heap.size w wr) := by
        obtain ⟨M, -, h2, h3, h4⟩ := HM.out
        rw [List.take_length] at h2
        rw [List.drop_length, List.append_nil] at h3
        exact ⟨M, h2, h3, h4⟩
      clear HM
      go_wp2
      go_ret
      obtain ⟨M, h2, h3, h4⟩ := H4.out
      exact ⟨_, rfl, M, h2, h3, h4⟩

set_option maxHeartbeats 1000000 in
theorem clLs_any {w : World} {b q : Nat} {v : Value} {l : List Vr} (h0 : w.cell? ⟨b, q + 6, none⟩ = some v) (hf : w.frozen? ⟨b, q + 6, none⟩ = false) (hv : Rr 4 Vr.c w v l) (hn : l.length * 48 ≤ 211106232528000) :
    Calls Tryz.prog 42 #[.pointer (some ⟨b, q, none⟩)] w fun e w' => e = .returned (.tuple #[]) ∧ ∃ v' w1, w' = w1.setCell ⟨b, q + 6, none⟩ v' ∧ w1.ownsRow w.heap.size 101 4 v' l.length (l.flatMap Vr.c) ∧ Below w.heap.size w w1 := by
  have CF := freshVr_any hv hn
  have hb := World.block_lt_of_cell? w _ h0
  obtain ⟨a, cap, rfl, -⟩ := id hv
  clear hv
  go_enter Tryz.func42, Tryz.ntmps42
  go_wp2_with (go_at_call 35; refine CF.mono ?_; rintro e w1 ⟨v1, rfl, r1, b1⟩; obtain ⟨a1, c1, rfl, -⟩ := row_slice r1; have m1 := (b1.cell (p := ⟨b, q + 6, none⟩) hb).trans h0; have f1 := (b1.frozen (p := ⟨b, q + 6, none⟩) hb).trans hf; (have H1 : Hid (w1.ownsRow w.heap.size 101 4 (.slice a1 l.length c1) l.length (l.flatMap Vr.c) ∧ Below w.heap.size w w1) := ⟨r1, b1⟩); clear b1 r1 CF h0 hf)
  go_end0
  exact ⟨rfl, _, w1, rfl, H1.out⟩
/-- one element more has a list of its own -/
theorem Ls.step {B : Nat} {w w1 : World} {g cap i n : Nat} {M : List Ls} {l : List Ls} {v' : Value} (hi : i < l.length) (hM : M.length = i) (hn : l.length = n) (h : Own B w (Ls.rw (.slice (some ⟨g, 0, none⟩) n cap) (M ++ l.drop i) :: M.map Ls.r)) (hb : Below w.heap.size w w1) (hr : w1.ownsRow w.heap.size 101 4 v' l[i].vars.length (l[i].vars.flatMap Vr.c)) (hB : B ≤ w.heap.size) :
    Own B (w1.setCell ⟨g, i * 7 + 6, none⟩ v') (Ls.rw (.slice (some ⟨g, 0, none⟩) n cap) ((M ++ [{ l[i] with vv := v' }]) ++ l.drop (i + 1)) :: (M ++ [{ l[i] with vv := v' }]).map Ls.r) := by
  have hd : l.drop i = l[i] :: l.drop (i + 1) := (List.getElem_cons_drop (h := hi)).symm
  have h1 := h.add (r := Ls.r { l[i] with vv := v' }) hb hr hB
  have h2 := h1.perm (List.Perm.swap _ _ _)
  have hl : (M ++ l.drop i).length = n := by rw [List.length_append, List.length_drop]; omega
  have hg := h2.own _ (List.mem_cons_self ..)
  have e1 : ((M ++ l.drop i).flatMap Ls.c).set (i * 7 + 6) v' = ((M ++ [{ l[i] with vv := v' }]) ++ l.drop (i + 1)).flatMap Ls.c := by
    rw [fm_set Ls.k (M ++ l.drop i) i 6 (by omega) (by omega) { l[i] with vv := v' } v' (by rw [List.getElem_append_right (by omega)]; simp [hM, Ls.c])]
    rw [hd, set_mid hM]
  have hg' : w1.ownsRow B 113 7 (.slice (some ⟨g, 0, none⟩) n cap) n ((M ++ l.drop i).flatMap Ls.c) := by
    have := hg
    unfold Rw.ok Ls.rw at this
    rw [hl] at this
    exact this
  have h3 := h2.turn (r' := Ls.rw (.slice (some ⟨g, 0, none⟩) n cap) ((M ++ [{ l[i] with vv := v' }]) ++ l.drop (i + 1))) (ch_cell w1 g (i * 7 + 6) v') (by
    unfold Rw.ok Ls.rw
    have := row_put hg' (i * 7 + 6) v'
    rw [e1] at this
    have hl2 : ((M ++ [{ l[i] with vv := v' }]) ++ l.drop (i + 1)).length = n := by simp; omega
    rw [hl2]
    exact this) (fun b hb => .inl hb)
  refine h3.perm (List.Perm.cons _ ?_)
  rw [List.map_append, List.map_cons, List.map_nil]
  exact (List.perm_append_singleton _ _).symm
set_option maxHeartbeats 1000000 in
set_option maxRecDepth 100000 in
theorem withinLs_any {w : World} {v : Value} {l : List Ls} (h : Rr 7 Ls.c w v l) (hn : l.length * 88 ≤ 211106232528000) (hi : ∀ x ∈ l, Rr 4 Vr.c w x.vv x.vars) (hm : ∀ x ∈ l, x.vars.length * 48 ≤ 211106232528000) :
    Calls Tryz.prog 41 #[v, .func (.func 42) #[] #[]] w fun e w' => ∃ v' M, e = .returned v' ∧ M.map Ls.e = l.map Ls.e ∧ Own w.heap.size w' (Ls.rw v' M :: M.map Ls.r) ∧ Below w.heap.size w w' := by
  have CF := freshLs_any h (fun x hx => (hi x hx).oneCell) hn
  have HI : Hid (∀ x ∈ l, Rr 4 Vr.c w x.vv x.vars) := hi
  have hl : l.length ≤ 4611686018427387904 := by omega
  obtain ⟨a, cap, rfl, -⟩ := h
  clear hi
  go_enter Tryz.func41, Tryz.ntmps41
  go_wp2_with (go_at_call 52; refine CF.mono ?_; rintro e w1 ⟨v1, rfl, r1, b1⟩; obtain ⟨a1, c1, hs1, -, hc1, -⟩ := row_slice r1; (have H1 : Hid (Own w.heap.size w1 (Ls.rw v1 ([] ++ l.drop 0) :: ([] : List Ls).map Ls.r) ∧ Below w.heap.size w w1) := ⟨⟨fun r hr => by rw [List.mem_singleton.1 hr]; exact r1, List.pairwise_singleton _ _⟩, b1⟩); clear b1 r1 CF; rw [hs1] at H1; rw [hs1]; clear hs1 v1)
  go_loopw [10] (fun v10 wr => ∃ i : Nat, v10 = .int .i64 (i : Int) ∧ i ≤ l.length ∧ Hid (∃ M : List Ls, M.length = i ∧ M.map Ls.e = (l.take i).map Ls.e ∧ Own w.heap.size wr (Ls.rw (.slice a1 l.length c1) (M ++ l.drop i) :: M.map Ls.r) ∧ Below w.heap.size w wr)) (fun v10 _ => l.length - (intOf v10).toNat)
  case atStart => exact ⟨0, rfl, Nat.zero_le _, [], rfl, rfl, H1.out⟩
  case round =>
    clear H1
    obtain ⟨i, rfl, hil, HM⟩ := hrel
    by_cases hlt : i < l.length
    · have hlt' : (i : Int) < (l.length : Int) := by omega
      have hi0 : (0 : Int) ≤ (i : Int) := by omega
      obtain ⟨M, hM, hMe, hO, hB⟩ := HM.out
      have hrow := hO.own _ (List.mem_cons_self ..)
      unfold Rw.ok Ls.rw at hrow
      have hlen : (M ++ l.drop i).length = l.length := by rw [List.length_append, List.length_drop]; omega
      simp only [hlen] at hrow
      obtain ⟨g, cap', hsl, -⟩ := row_any hrow (by omega)
      obtain ⟨rfl, rfl⟩ : a1 = some ⟨g, 0, none⟩ ∧ c1 = cap' := by injection hsl with e1 _ e2; exact ⟨e1, e2⟩
      have hx : (M ++ l.drop i)[i]? = some l[i] := by rw [List.getElem?_append_right (by omega), hM, Nat.sub_self, List.getElem?_drop, Nat.add_zero, List.getElem?_eq_getElem hlt]
      have m0 : wr.cell? ⟨g, i * 7 + 6, none⟩ = some l[i].vv := row_cell hrow (by rw [fm_get Ls.k _ i 6 (by omega), hx]; rfl)
      have f0 := row_fro hrow (i * 7 + 6)
      have CC := clLs_any (b := g) (q := i * 7) m0 f0 ((HI.out l[i] (List.getElem_mem hlt)).up hB) (hm l[i] (List.getElem_mem hlt))
      have HST : Hid (∀ (v' : Value) (w1 : World), w1.ownsRow wr.heap.size 101 4 v' l[i].vars.length (l[i].vars.flatMap Vr.c) → Below wr.heap.size wr w1 → ∃ M' : List Ls, M'.length = i + 1 ∧ M'.map Ls.e = (l.take (i + 1)).map Ls.e ∧ Own w.heap.size (w1.setCell ⟨g, i * 7 + 6, none⟩ v') (Ls.rw (.slice (some ⟨g, 0, none⟩) l.length c1) (M' ++ l.drop (i + 1)) :: M'.map Ls.r) ∧ Below w.heap.size w (w1.setCell ⟨g, i * 7 + 6, none⟩ v')) := by
        intro v' w1 hr1 hb1
        refine ⟨M ++ [{ l[i] with vv := v' }], by simp [hM], ?_, Ls.step hlt hM rfl hO hb1 hr1 hB.size, ?_⟩
        · rw [List.map_append, hMe, List.take_succ_eq_append_getElem hlt, List.map_append]; rfl
        · have hg := row_lt hrow
          exact (bel_of hB hb1 (Nat.le_refl _)).trans ((Ch.refl (fun b => b = g) w1).setCell ⟨g, i * 7 + 6, none⟩ v' (fun _ => rfl) |>.below (by have := hB.size; have := hb1.size; omega) (fun k hk e => by omega))
      clear hO hB hrow hx m0 f0 hMe hM HM hlen
      generalize l[i] = x at *
      go_wp2_with (go_at_call 42; refine CC.mono ?_; rintro e w2 ⟨rfl, v', w3, rfl, hr3, hb3⟩; (have H3 : Hid _ := HST.out v' w3 hr3 hb3); clear CC HST hr3 hb3)
      go_roundw
      case rel => exact ⟨i + 1, by simp, by omega, H3.out⟩
      case measure => simp [intOf]; omega
    · have hlt' : ¬ (i : Int) < (l.length : Int) := by omega
      obtain rfl : i = l.length := by omega
      have H4 : Hid (∃ M : List Ls, M.map Ls.e = l.map Ls.e ∧ Own w.heap.size wr (Ls.rw (.slice a1 l.length c1) M :: M.map Ls.r) ∧ Below w.heap.size w wr) := by
        obtain ⟨M, -, h2, h3, h4⟩ := HM.out
        rw [List.take_length] at h2
        rw [List.drop_length, List.append_nil] at h3
        exact ⟨M, h2, h3, h4⟩
      clear HM
      go_wp2
      go_ret
      obtain ⟨M, h2, h3, h4⟩ := H4.out
      exact ⟨_, rfl, M, h2, h3, h4⟩
end Go.Proofs.YthmfcloecmnfnaaGreat.f13
namespace Go.Proofs.YthmfcloecmnfnaaGreat.f13
open Go.RowKit Go.Shelf Go.Sort
open Go.Lib hiding intOf

theorem perm_two {α : Type} (A C : List α) (r q : α) : (q :: r :: (A ++ C)).Perm ((A ++ [r]) ++ (C ++ [q])) := by
  have p1 : (r :: (A ++ C)).Perm ((A ++ [r]) ++ C) := by rw [List.append_assoc, List.singleton_append]; exact List.perm_middle.symm
  rw [← List.append_assoc]
  exact (p1.cons q).trans (List.perm_append_singleton _ _).symm

/-- one message more has lists of its own -/
theorem Ms.two {B : Nat} {w w1 w2 : World} {g cap i n : Nat} {M : List Ms} {l : List Ms} {v' u' : Value} (hi : i < l.length) (hM : M.length = i) (hn : l.length = n) (h : Own B w (Ms.rw (.slice (some ⟨g, 0, none⟩) n cap) (M ++ l.drop i) :: (M.map Ms.r ++ M.map Ms.q))) (hb : Below w.heap.size w w1) (hr : w1.ownsRow w.heap.size 101 4 v' l[i].vars.length (l[i].vars.flatMap Vr.c)) (hb2 : Below w1.heap.size w1 w2) (hr2 : w2.ownsRow w1.heap.size 22 1 u' l[i].its.length (l[i].its.flatMap Un.c)) (hB : B ≤ w.heap.size) (W : World) (hW : W = (w2.setCell ⟨g, i * 7 + 5, none⟩ v').setCell ⟨g, i * 7 + 6, none⟩ u' ∨ W = (w2.setCell ⟨g, i * 7 + 6, none⟩ u').setCell ⟨g, i * 7 + 5, none⟩ v') :
    Own B W (Ms.rw (.slice (some ⟨g, 0, none⟩) n cap) ((M ++ [{ l[i] with vv := v', iv := u' }]) ++ l.drop (i + 1)) :: ((M ++ [{ l[i] with vv := v', iv := u' }]).map Ms.r ++ (M ++ [{ l[i] with vv := v', iv := u' }]).map Ms.q)) ∧ Ch (fun b => (some g : Option Nat) = some b) w2 W := by
  have hd : l.drop i = l[i] :: l.drop (i + 1) := (List.getElem_cons_drop (h := hi)).symm
  have h1 := h.add (r := Ms.r { l[i] with vv := v', iv := u' }) hb hr hB
  have h1' := h1.add (r := Ms.q { l[i] with vv := v', iv := u' }) hb2 hr2 (Nat.le_trans hB hb.size)
  have h2 := h1'.perm (((List.Perm.swap _ _ _).cons _).trans (List.Perm.swap _ _ _))
  have hl : (M ++ l.drop i).length = n := by rw [List.length_append, List.length_drop]; omega
  have hg := h2.own _ (List.mem_cons_self ..)
  have hll : i < (M ++ l.drop i).length := by omega
  have hxi : (M ++ l.drop i)[i] = l[i] := by rw [List.getElem_append_right (by omega)]; simp [hM]
  have e1 : (((M ++ l.drop i).flatMap Ms.c).set (i * 7 + 5) v').set (i * 7 + 6) u' = ((M ++ [{ l[i] with vv := v', iv := u' }]) ++ l.drop (i + 1)).flatMap Ms.c := by
    rw [fm_set Ms.k (M ++ l.drop i) i 5 hll (by omega) { l[i] with vv := v' } v' (by rw [hxi]; rfl), fm_set Ms.k _ i 6 (by simpa using hll) (by omega) { l[i] with vv := v', iv := u' } u' (by rw [List.getElem_set_self]; rfl), List.set_set]
    rw [hd, set_mid hM]
  have hg' : w2.ownsRow B 74 7 (.slice (some ⟨g, 0, none⟩) n cap) n ((M ++ l.drop i).flatMap Ms.c) := by
    have := hg
    unfold Rw.ok Ms.rw at this
    rw [hl] at this
    exact this
  have hWW : W.ownsRow B 74 7 (.slice (some ⟨g, 0, none⟩) n cap) n ((((M ++ l.drop i).flatMap Ms.c).set (i * 7 + 5) v').set (i * 7 + 6) u') ∧ Ch (fun b => (some g : Option Nat) = some b) w2 W := by
    rcases hW with rfl | rfl
    · exact ⟨row_put (row_put hg' _ _) _ _, ((Ch.refl (fun b => (some g : Option Nat) = some b) w2).setCell ⟨g, i * 7 + 5, none⟩ v' (fun _ => rfl)).setCell ⟨g, i * 7 + 6, none⟩ u' (fun _ => rfl)⟩
    · rw [List.set_comm _ _ (by omega)]
      exact ⟨row_put (row_put hg' _ _) _ _, ((Ch.refl (fun b => (some g : Option Nat) = some b) w2).setCell ⟨g, i * 7 + 6, none⟩ u' (fun _ => rfl)).setCell ⟨g, i * 7 + 5, none⟩ v' (fun _ => rfl)⟩
  have h3 := h2.turn (r' := Ms.rw (.slice (some ⟨g, 0, none⟩) n cap) ((M ++ [{ l[i] with vv := v', iv := u' }]) ++ l.drop (i + 1))) hWW.2 (by
    unfold Rw.ok Ms.rw
    have := hWW.1
    rw [e1] at this
    have hl2 : ((M ++ [{ l[i] with vv := v', iv := u' }]) ++ l.drop (i + 1)).length = n := by simp; omega
    rw [hl2]
    exact this) (fun b hb => .inl hb)
  refine ⟨h3.perm (List.Perm.cons _ ?_), hWW.2⟩
  simp only [List.map_append, List.map_cons, List.map_nil]
  exact perm_two _ _ _ _

/-- what the closure leaves of a message -/
def ClM (w : World) (b q : Nat) (l : List Vr) (m : List Nat) (w' : World) : Prop := ∃ v' u' w1 w2, w1.ownsRow w.heap.size 101 4 v' l.length (l.flatMap Vr.c) ∧ Below w.heap.size w w1 ∧ w2.ownsRow w1.heap.size 22 1 u' m.length (m.flatMap Un.c) ∧ Below w1.heap.size w1 w2 ∧ (w' = (w2.setCell ⟨b, q + 5, none⟩ v').setCell ⟨b, q + 6, none⟩ u' ∨ w' = (w2.setCell ⟨b, q + 6, none⟩ u').setCell ⟨b, q + 5, none⟩ v')
set_option maxHeartbeats 4000000 in
set_option maxRecDepth 100000 in
theorem clMs_any {w : World} {b q : Nat} {v u : Value} {l : List Vr} {m : List Nat} (h0 : w.cell? ⟨b, q + 5, none⟩ = some v) (hf : w.frozen? ⟨b, q + 5, none⟩ = false) (hv : Rr 4 Vr.c w v l) (hn : l.length * 48 ≤ 211106232528000) (h1 : w.cell? ⟨b, q + 6, none⟩ = some u) (hg : w.frozen? ⟨b, q + 6, none⟩ = false) (hu : Rr 1 Un.c w u m) (hm : m.length * 8 ≤ 211106232528000) :
    Calls Tryz.prog 44 #[.pointer (some ⟨b, q, none⟩)] w fun e w' => e = .returned (.tuple #[]) ∧ ClM w b q l m w' := by
  have CA : Hid (∀ W, Below w.heap.size w W → Calls Tryz.prog 35 #[v] W fun e w' => ∃ v', e = .returned v' ∧ w'.ownsRow W.heap.size 101 4 v' l.length (l.flatMap Vr.c) ∧ Below W.heap.size W w') := fun W hW => freshVr_any (hv.up hW) hn
  have CB : Hid (∀ W, Below w.heap.size w W → Calls Tryz.prog 45 #[u] W fun e w' => ∃ v', e = .returned v' ∧ w'.ownsRow W.heap.size 22 1 v' m.length (m.flatMap Un.c) ∧ Below W.heap.size W w') := fun W hW => freshUn_any (hu.up hW) hm
  have hb := World.block_lt_of_cell? w _ h0
  have HS : Hid (∀ W, Below w.heap.size w W → W.cell? ⟨b, q + 5, none⟩ = some v ∧ W.cell? ⟨b, q + 6, none⟩ = some u ∧ W.frozen? ⟨b, q + 5, none⟩ = false ∧ W.frozen? ⟨b, q + 6, none⟩ = false) := fun W hW => ⟨(hW.cell (p := ⟨b, q + 5, none⟩) hb).trans h0, (hW.cell (p := ⟨b, q + 6, none⟩) hb).trans h1, (hW.frozen (p := ⟨b, q + 5, none⟩) hb).trans hf, (hW.frozen (p := ⟨b, q + 6, none⟩) hb).trans hg⟩
  have HE : Hid (∀ v' u' w1 w2, w1.ownsRow w.drew.heap.size 101 4 v' l.length (l.flatMap Vr.c) → Below w.drew.heap.size w.drew w1 → w2.ownsRow w1.heap.size 22 1 u' m.length (m.flatMap Un.c) → Below w1.heap.size w1 w2 → ∀ W, (W = (w2.setCell ⟨b, q + 5, none⟩ v').setCell ⟨b, q + 6, none⟩ u' ∨ W = (w2.setCell ⟨b, q + 6, none⟩ u').setCell ⟨b, q + 5, none⟩ v') → ClM w b q l m W) := fun v' u' w1 w2 a1 a2 a3 a4 W hW => ⟨v', u', w1, w2, a1, ⟨a2.os, a2.tape, a2.output, a2.size, a2.block⟩, a3, a4, hW⟩
  obtain ⟨a, cap, rfl, -⟩ := id hv
  obtain ⟨a', cap', rfl, -⟩ := id hu
  clear hv hu
  go_enter Tryz.func44, Tryz.ntmps44
  go_wp2
  refine Code.wp_mono (Q := Exit.then (fun a' w' => (∃ tm, a' = { tmps := tm, defers := [] }) ∧ ClM w b q l m w') (fun _ _ _ => False)) ?post ?reg
  case reg =>
    go_region_with (first
      | (go_at_call 35; refine (CA.out _ (by exact (Below.refl _ w).drew)).mono ?_; rintro e w1 ⟨v1, rfl, r1, b1⟩; obtain ⟨a1, c1, rfl, -⟩ := row_slice r1; obtain ⟨m5, m6, f5, f6⟩ := HS.out w1 ((Below.refl _ w).drew.trans (b1.mono (Nat.le_refl _))))
      | (go_at_call 45; refine (CB.out _ (by exact (Below.refl _ w).drew.trans (b1.mono (Nat.le_refl _)))).mono ?_; rintro e w2 ⟨v2, rfl, r2, b2⟩; obtain ⟨a2, c2, rfl, -⟩ := row_slice r2; obtain ⟨n5, n6, g5, g6⟩ := HS.out w2 ((Below.refl _ w).drew.trans ((b1.mono (Nat.le_refl _)).trans (b2.mono b1.size)))))
    all_goals exact ⟨⟨_, rfl⟩, HE.out _ _ w1 w2 r1 b1 r2 b2 _ (by first | exact .inl rfl | exact .inr rfl)⟩
  case post =>
    intro e a' w' hq
    obtain ⟨rfl, ⟨tm, rfl⟩, hz⟩ : e = .normal ∧ (∃ tm, a' = { tmps := tm, defers := [] }) ∧ ClM w b q l m w' := by
      cases e <;> first | exact ⟨rfl, hq⟩ | exact hq.elim
    go_end0
    exact ⟨rfl, hz⟩

set_option maxHeartbeats 1000000 in
set_option maxRecDepth 100000 in
theorem withinMs_any {w : World} {v : Value} {l : List Ms} (h : Rr 7 Ms.c w v l) (hn : l.length * 112 ≤ 211106232528000) (hi : ∀ x ∈ l, Rr 4 Vr.c w x.vv x.vars) (hj : ∀ x ∈ l, Rr 1 Un.c w x.iv x.its) (hm : ∀ x ∈ l, x.vars.length * 48 ≤ 211106232528000) (hk : ∀ x ∈ l, x.its.length * 8 ≤ 211106232528000) :
    Calls Tryz.prog 43 #[v, .func (.func 44) #[] #[]] w fun e w' => ∃ v' M, e = .returned v' ∧ M.map Ms.e = l.map Ms.e ∧ Own w.heap.size w' (Ms.rw v' M :: (M.map Ms.r ++ M.map Ms.q)) ∧ Below w.heap.size w w' := by
  have CF := freshMs_any h (fun x hx => (hi x hx).oneCell) (fun x hx => (hj x hx).oneCell) hn
  have HI : Hid (∀ x ∈ l, Rr 4 Vr.c w x.vv x.vars) := hi
  have HJ : Hid (∀ x ∈ l, Rr 1 Un.c w x.iv x.its) := hj
  have hl : l.length ≤ 4611686018427387904 := by omega
  obtain ⟨a, cap, rfl, -⟩ := h
  clear hi hj
  go_enter Tryz.func43, Tryz.ntmps43
  go_wp2_with (go_at_call 53; refine CF.mono ?_; rintro e w1 ⟨v1, rfl, r1, b1⟩; obtain ⟨a1, c1, hs1, -, hc1, -⟩ := row_slice r1; (have H1 : Hid (Own w.heap.size w1 (Ms.rw v1 ([] ++ l.drop 0) :: (([] : List Ms).map Ms.r ++ ([] : List Ms).map Ms.q)) ∧ Below w.heap.size w w1) := ⟨⟨fun r hr => by rw [List.mem_singleton.1 hr]; exact r1, List.pairwise_singleton _ _⟩, b1⟩); clear b1 r1 CF; rw [hs1] at H1; rw [hs1]; clear hs1 v1)
  go_loopw [10] (fun v10 wr => ∃ i : Nat, v10 = .int .i64 (i : Int) ∧ i ≤ l.length ∧ Hid (∃ M : List Ms, M.length = i ∧ M.map Ms.e = (l.take i).map Ms.e ∧ Own w.heap.size wr (Ms.rw (.slice a1 l.length c1) (M ++ l.drop i) :: (M.map Ms.r ++ M.map Ms.q)) ∧ Below w.heap.size w wr)) (fun v10 _ => l.length - (intOf v10).toNat)
  case atStart => exact ⟨0, rfl, Nat.zero_le _, [], rfl, rfl, H1.out⟩
  case round =>
    clear H1
    obtain ⟨i, rfl, hil, HM⟩ := hrel
    by_cases hlt : i < l.length
    · have hlt' : (i : Int) < (l.length : Int) := by omega
      have hi0 : (0 : Int) ≤ (i : Int) := by omega
      obtain ⟨M, hM, hMe, hO, hB⟩ := HM.out
      have hrow := hO.own _ (List.mem_cons_self ..)
      unfold Rw.ok Ms.rw at hrow
      have hlen : (M ++ l.drop i).length = l.length := by rw [List.length_append, List.length_drop]; omega
      simp only [hlen] at hrow
      obtain ⟨g, cap', hsl, -⟩ := row_any hrow (by omega)
      obtain ⟨rfl, rfl⟩ : a1 = some ⟨g, 0, none⟩ ∧ c1 = cap' := by injection hsl with e1 _ e2; exact ⟨e1, e2⟩
      have hx : (M ++ l.drop i)[i]? = some l[i] := by rw [List.getElem?_append_right (by omega), hM, Nat.sub_self, List.getElem?_drop, Nat.add_zero, List.getElem?_eq_getElem hlt]
      have m0 : wr.cell? ⟨g, i * 7 + 5, none⟩ = some l[i].vv := row_cell hrow (by rw [fm_get Ms.k _ i 5 (by omega), hx]; rfl)
      have m1 : wr.cell? ⟨g, i * 7 + 6, none⟩ = some l[i].iv := row_cell hrow (by rw [fm_get Ms.k _ i 6 (by omega), hx]; rfl)
      have f0 := row_fro hrow (i * 7 + 5)
      have f1 := row_fro hrow (i * 7 + 6)
      have CC := clMs_any (b := g) (q := i * 7) m0 f0 ((HI.out l[i] (List.getElem_mem hlt)).up hB) (hm l[i] (List.getElem_mem hlt)) m1 f1 ((HJ.out l[i] (List.getElem_mem hlt)).up hB) (hk l[i] (List.getElem_mem hlt))
      have HST : Hid (∀ (w2 : World), ClM wr g (i * 7) l[i].vars l[i].its w2 → ∃ M' : List Ms, M'.length = i + 1 ∧ M'.map Ms.e = (l.take (i + 1)).map Ms.e ∧ Own w.heap.size w2 (Ms.rw (.slice (some ⟨g, 0, none⟩) l.length c1) (M' ++ l.drop (i + 1)) :: (M'.map Ms.r ++ M'.map Ms.q)) ∧ Below w.heap.size w w2) := by
        rintro W ⟨v', u', w1, w2, hr1, hb1, hr2, hb2, hW⟩
        obtain ⟨hT, hC⟩ := Ms.two hlt hM rfl hO hb1 hr1 hb2 hr2 hB.size W hW
        refine ⟨M ++ [{ l[i] with vv := v', iv := u' }], by simp [hM], ?_, hT, ?_⟩
        · rw [List.map_append, hMe, List.take_succ_eq_append_getElem hlt, List.map_append]; rfl
        · have hg := row_lt hrow
          exact (bel_of (bel_of hB hb1 (Nat.le_refl _)) hb2 (Nat.le_refl _)).trans (hC.below (by have := hB.size; have := hb1.size; have := hb2.size; omega) (fun k hk e => by cases e; omega))
      clear hO hB hrow hx m0 m1 f0 f1 hMe hM HM hlen
      generalize l[i] = x at *
      go_wp2_with (go_at_call 44; refine CC.mono ?_; rintro e w2 ⟨rfl, hq⟩; (have H3 : Hid _ := HST.out w2 hq); clear CC HST hq)
      go_roundw
      case rel => exact ⟨i + 1, by simp, by omega, H3.out⟩
      case measure => simp [intOf]; omega
    · have hlt' : ¬ (i : Int) < (l.length : Int) := by omega
      obtain rfl : i = l.length := by omega
      have H4 : Hid (∃ M : List Ms, M.map Ms.e = l.map Ms.e ∧ Own w.heap.size wr (Ms.rw (.slice a1 l.length c1) M :: (M.map Ms.r ++ M.map Ms.q)) ∧ Below w.heap.size w wr) := by
        obtain ⟨M, -, h2, h3, h4⟩ := HM.out
        rw [List.take_length] at h2
        rw [List.drop_length, List.append_nil] at h3
        exact ⟨M, h2, h3, h4⟩
      clear HM
      go_wp2
      go_ret
      obtain ⟨M, h2, h3, h4⟩ := H4.out
      exact ⟨_, rfl, M, h2, h3, h4⟩
end Go.Proofs.YthmfcloecmnfnaaGreat.f13
