/-
  Package fold's fresh, of every type that it is called with: a list in new memory.
-/
import Derived.Test.YtbegpbaklagcpaaGreatF13Base
namespace Go.Proofs.YtbegpbaklagcpaaGreat.f13
open Go.RowKit Go.Shelf Go.Sort
open Go.Lib hiding intOf

set_option maxHeartbeats 1000000 in
set_option maxRecDepth 100000 in
theorem freshDe_any {w : World} {v : Value} {l : List De} (h : Rr 2 De.c w v l) (hn : l.length * 32 ≤ 211106232528000) :
    Calls Tryz.prog 48 #[v] w fun e w' => ∃ v', e = .returned v' ∧ w'.ownsRow w.heap.size 98 2 v' l.length (l.flatMap De.c) ∧ Below w.heap.size w w' := by
  obtain ⟨i0, hi0, hz0, hz1, hz2⟩ := info_parts infoDe
  have HR := World.ownsRow_nil w w.heap.size 98 2
  obtain ⟨a, cp, rfl, hcp, -⟩ := id h
  cases a with
  | none =>
    have hl : l = [] := List.eq_nil_of_length_eq_zero (by have := hcp.1; have := hcp.2 rfl; omega)
    subst hl
    obtain rfl := hcp.2 rfl
    have H2 : Hid (w.ownsRow w.heap.size 98 2 (.slice none 0 0) 0 []) := HR
    clear HR h
    go_enter Tryz.func48, Tryz.ntmps48
    go_wp2_with (at_builtin; refine wpList_append_own_none rfl _ _ 23 rfl w.heap.size 98 i0 2 Tryz.underlying23 hi0 _ _ _ rfl H2.out rfl ?_)
    go_ret
    exact ⟨_, rfl, H2.out, Below.refl _ _⟩
  | some ad =>
    have hcl := h.cells De.k (by decide)
    have hvl := fm_len De.k l
    have hv1 := De.one (l := l)
    have hfit : (0 + l.length + (0 + l.length) / 4 + 192) * 32 ≤ 281474976710656 := by omega
    clear h
    go_enter Tryz.func48, Tryz.ntmps48
    go_wp2_with (at_builtin; refine wpList_append_own_wide _ rfl _ _ 23 rfl w.heap.size 98 i0 _ 2 32 Tryz.underlying23 hi0 hz0 hz1 hz2 rfl (by decide) _ _ _ rfl HR ad l.length cp (l.flatMap De.c) rfl hvl hcl hv1 (by unfold maxLen; omega) hfit (by omega) ?_; intro v2 w2 hown2 hgrow2 _; have H2 : Hid (w2.ownsRow w.heap.size 98 2 v2 l.length (l.flatMap De.c) ∧ Below w.heap.size w w2) := ⟨by simpa using hown2, (Below.refl _ w).grown hgrow2 (Nat.le_refl _) (fun k hk => by cases hk)⟩; clear hown2 hgrow2 HR hcl hvl hv1)
    go_ret
    exact ⟨_, rfl, H2.out⟩

set_option maxHeartbeats 1000000 in
set_option maxRecDepth 100000 in
theorem freshIn_any {w : World} {v : Value} {l : List In} (h : Rr 3 In.c w v l) (h0 : ∀ x ∈ l, x.vv.oneCell' = true) (hn : l.length * 48 ≤ 211106232528000) :
    Calls Tryz.prog 68 #[v] w fun e w' => ∃ v', e = .returned v' ∧ w'.ownsRow w.heap.size 101 3 v' l.length (l.flatMap In.c) ∧ Below w.heap.size w w' := by
  obtain ⟨i0, hi0, hz0, hz1, hz2⟩ := info_parts infoIn
  have HR := World.ownsRow_nil w w.heap.size 101 3
  obtain ⟨a, cp, rfl, hcp, -⟩ := id h
  cases a with
  | none =>
    have hl : l = [] := List.eq_nil_of_length_eq_zero (by have := hcp.1; have := hcp.2 rfl; omega)
    subst hl
    obtain rfl := hcp.2 rfl
    have H2 : Hid (w.ownsRow w.heap.size 101 3 (.slice none 0 0) 0 []) := HR
    clear HR h
    go_enter Tryz.func68, Tryz.ntmps68
    go_wp2_with (at_builtin; refine wpList_append_own_none rfl _ _ 24 rfl w.heap.size 101 i0 3 Tryz.underlying24 hi0 _ _ _ rfl H2.out rfl ?_)
    go_ret
    exact ⟨_, rfl, H2.out, Below.refl _ _⟩
  | some ad =>
    have hcl := h.cells In.k (by decide)
    have hvl := fm_len In.k l
    have hv1 := In.one (l := l) h0
    have hfit : (0 + l.length + (0 + l.length) / 4 + 192) * 48 ≤ 281474976710656 := by omega
    clear h
    go_enter Tryz.func68, Tryz.ntmps68
    go_wp2_with (at_builtin; refine wpList_append_own_wide _ rfl _ _ 24 rfl w.heap.size 101 i0 _ 3 48 Tryz.underlying24 hi0 hz0 hz1 hz2 rfl (by decide) _ _ _ rfl HR ad l.length cp (l.flatMap In.c) rfl hvl hcl hv1 (by unfold maxLen; omega) hfit (by omega) ?_; intro v2 w2 hown2 hgrow2 _; have H2 : Hid (w2.ownsRow w.heap.size 101 3 v2 l.length (l.flatMap In.c) ∧ Below w.heap.size w w2) := ⟨by simpa using hown2, (Below.refl _ w).grown hgrow2 (Nat.le_refl _) (fun k hk => by cases hk)⟩; clear hown2 hgrow2 HR hcl hvl hv1)
    go_ret
    exact ⟨_, rfl, H2.out⟩

set_option maxHeartbeats 1000000 in
set_option maxRecDepth 100000 in
theorem freshTk_any {w : World} {v : Value} {l : List Tk} (h : Rr 6 Tk.c w v l) (hn : l.length * 56 ≤ 211106232528000) :
    Calls Tryz.prog 52 #[v] w fun e w' => ∃ v', e = .returned v' ∧ w'.ownsRow w.heap.size 79 6 v' l.length (l.flatMap Tk.c) ∧ Below w.heap.size w w' := by
  obtain ⟨i0, hi0, hz0, hz1, hz2⟩ := info_parts infoTk
  have HR := World.ownsRow_nil w w.heap.size 79 6
  obtain ⟨a, cp, rfl, hcp, -⟩ := id h
  cases a with
  | none =>
    have hl : l = [] := List.eq_nil_of_length_eq_zero (by have := hcp.1; have := hcp.2 rfl; omega)
    subst hl
    obtain rfl := hcp.2 rfl
    have H2 : Hid (w.ownsRow w.heap.size 79 6 (.slice none 0 0) 0 []) := HR
    clear HR h
    go_enter Tryz.func52, Tryz.ntmps52
    go_wp2_with (at_builtin; refine wpList_append_own_none rfl _ _ 25 rfl w.heap.size 79 i0 6 Tryz.underlying25 hi0 _ _ _ rfl H2.out rfl ?_)
    go_ret
    exact ⟨_, rfl, H2.out, Below.refl _ _⟩
  | some ad =>
    have hcl := h.cells Tk.k (by decide)
    have hvl := fm_len Tk.k l
    have hv1 := Tk.one (l := l)
    have hfit : (0 + l.length + (0 + l.length) / 4 + 192) * 56 ≤ 281474976710656 := by omega
    clear h
    go_enter Tryz.func52, Tryz.ntmps52
    go_wp2_with (at_builtin; refine wpList_append_own_wide _ rfl _ _ 25 rfl w.heap.size 79 i0 _ 6 56 Tryz.underlying25 hi0 hz0 hz1 hz2 rfl (by decide) _ _ _ rfl HR ad l.length cp (l.flatMap Tk.c) rfl hvl hcl hv1 (by unfold maxLen; omega) hfit (by omega) ?_; intro v2 w2 hown2 hgrow2 _; have H2 : Hid (w2.ownsRow w.heap.size 79 6 v2 l.length (l.flatMap Tk.c) ∧ Below w.heap.size w w2) := ⟨by simpa using hown2, (Below.refl _ w).grown hgrow2 (Nat.le_refl _) (fun k hk => by cases hk)⟩; clear hown2 hgrow2 HR hcl hvl hv1)
    go_ret
    exact ⟨_, rfl, H2.out⟩

set_option maxHeartbeats 1000000 in
set_option maxRecDepth 100000 in
theorem freshJb_any {w : World} {v : Value} {l : List Jb} (h : Rr 6 Jb.c w v l) (hn : l.length * 64 ≤ 211106232528000) :
    Calls Tryz.prog 53 #[v] w fun e w' => ∃ v', e = .returned v' ∧ w'.ownsRow w.heap.size 70 6 v' l.length (l.flatMap Jb.c) ∧ Below w.heap.size w w' := by
  obtain ⟨i0, hi0, hz0, hz1, hz2⟩ := info_parts infoJb
  have HR := World.ownsRow_nil w w.heap.size 70 6
  obtain ⟨a, cp, rfl, hcp, -⟩ := id h
  cases a with
  | none =>
    have hl : l = [] := List.eq_nil_of_length_eq_zero (by have := hcp.1; have := hcp.2 rfl; omega)
    subst hl
    obtain rfl := hcp.2 rfl
    have H2 : Hid (w.ownsRow w.heap.size 70 6 (.slice none 0 0) 0 []) := HR
    clear HR h
    go_enter Tryz.func53, Tryz.ntmps53
    go_wp2_with (at_builtin; refine wpList_append_own_none rfl _ _ 26 rfl w.heap.size 70 i0 6 Tryz.underlying26 hi0 _ _ _ rfl H2.out rfl ?_)
    go_ret
    exact ⟨_, rfl, H2.out, Below.refl _ _⟩
  | some ad =>
    have hcl := h.cells Jb.k (by decide)
    have hvl := fm_len Jb.k l
    have hv1 := Jb.one (l := l)
    have hfit : (0 + l.length + (0 + l.length) / 4 + 192) * 64 ≤ 281474976710656 := by omega
    clear h
    go_enter Tryz.func53, Tryz.ntmps53
    go_wp2_with (at_builtin; refine wpList_append_own_wide _ rfl _ _ 26 rfl w.heap.size 70 i0 _ 6 64 Tryz.underlying26 hi0 hz0 hz1 hz2 rfl (by decide) _ _ _ rfl HR ad l.length cp (l.flatMap Jb.c) rfl hvl hcl hv1 (by unfold maxLen; omega) hfit (by omega) ?_; intro v2 w2 hown2 hgrow2 _; have H2 : Hid (w2.ownsRow w.heap.size 70 6 v2 l.length (l.flatMap Jb.c) ∧ Below w.heap.size w w2) := ⟨by simpa using hown2, (Below.refl _ w).grown hgrow2 (Nat.le_refl _) (fun k hk => by cases hk)⟩; clear hown2 hgrow2 HR hcl hvl hv1)
    go_ret
    exact ⟨_, rfl, H2.out⟩

set_option maxHeartbeats 1000000 in
set_option maxRecDepth 100000 in
theorem freshTm_any {w : World} {v : Value} {l : List Tm} (h : Rr 3 Tm.c w v l) (hn : l.length * 24 ≤ 211106232528000) :
    Calls Tryz.prog 54 #[v] w fun e w' => ∃ v', e = .returned v' ∧ w'.ownsRow w.heap.size 103 3 v' l.length (l.flatMap Tm.c) ∧ Below w.heap.size w w' := by
  obtain ⟨i0, hi0, hz0, hz1, hz2⟩ := info_parts infoTm
  have HR := World.ownsRow_nil w w.heap.size 103 3
  obtain ⟨a, cp, rfl, hcp, -⟩ := id h
  cases a with
  | none =>
    have hl : l = [] := List.eq_nil_of_length_eq_zero (by have := hcp.1; have := hcp.2 rfl; omega)
    subst hl
    obtain rfl := hcp.2 rfl
    have H2 : Hid (w.ownsRow w.heap.size 103 3 (.slice none 0 0) 0 []) := HR
    clear HR h
    go_enter Tryz.func54, Tryz.ntmps54
    go_wp2_with (at_builtin; refine wpList_append_own_none rfl _ _ 27 rfl w.heap.size 103 i0 3 Tryz.underlying27 hi0 _ _ _ rfl H2.out rfl ?_)
    go_ret
    exact ⟨_, rfl, H2.out, Below.refl _ _⟩
  | some ad =>
    have hcl := h.cells Tm.k (by decide)
    have hvl := fm_len Tm.k l
    have hv1 := Tm.one (l := l)
    have hfit : (0 + l.length + (0 + l.length) / 4 + 192) * 24 ≤ 281474976710656 := by omega
    clear h
    go_enter Tryz.func54, Tryz.ntmps54
    go_wp2_with (at_builtin; refine wpList_append_own_wide _ rfl _ _ 27 rfl w.heap.size 103 i0 _ 3 24 Tryz.underlying27 hi0 hz0 hz1 hz2 rfl (by decide) _ _ _ rfl HR ad l.length cp (l.flatMap Tm.c) rfl hvl hcl hv1 (by unfold maxLen; omega) hfit (by omega) ?_; intro v2 w2 hown2 hgrow2 _; have H2 : Hid (w2.ownsRow w.heap.size 103 3 v2 l.length (l.flatMap Tm.c) ∧ Below w.heap.size w w2) := ⟨by simpa using hown2, (Below.refl _ w).grown hgrow2 (Nat.le_refl _) (fun k hk => by cases hk)⟩; clear hown2 hgrow2 HR hcl hvl hv1)
    go_ret
    exact ⟨_, rfl, H2.out⟩

set_option maxHeartbeats 1000000 in
set_option maxRecDepth 100000 in
theorem freshSb_any {w : World} {v : Value} {l : List Sb} (h : Rr 6 Sb.c w v l) (hn : l.length * 64 ≤ 211106232528000) :
    Calls Tryz.prog 55 #[v] w fun e w' => ∃ v', e = .returned v' ∧ w'.ownsRow w.heap.size 105 6 v' l.length (l.flatMap Sb.c) ∧ Below w.heap.size w w' := by
  obtain ⟨i0, hi0, hz0, hz1, hz2⟩ := info_parts infoSb
  have HR := World.ownsRow_nil w w.heap.size 105 6
  obtain ⟨a, cp, rfl, hcp, -⟩ := id h
  cases a with
  | none =>
    have hl : l = [] := List.eq_nil_of_length_eq_zero (by have := hcp.1; have := hcp.2 rfl; omega)
    subst hl
    obtain rfl := hcp.2 rfl
    have H2 : Hid (w.ownsRow w.heap.size 105 6 (.slice none 0 0) 0 []) := HR
    clear HR h
    go_enter Tryz.func55, Tryz.ntmps55
    go_wp2_with (at_builtin; refine wpList_append_own_none rfl _ _ 28 rfl w.heap.size 105 i0 6 Tryz.underlying28 hi0 _ _ _ rfl H2.out rfl ?_)
    go_ret
    exact ⟨_, rfl, H2.out, Below.refl _ _⟩
  | some ad =>
    have hcl := h.cells Sb.k (by decide)
    have hvl := fm_len Sb.k l
    have hv1 := Sb.one (l := l)
    have hfit : (0 + l.length + (0 + l.length) / 4 + 192) * 64 ≤ 281474976710656 := by omega
    clear h
    go_enter Tryz.func55, Tryz.ntmps55
    go_wp2_with (at_builtin; refine wpList_append_own_wide _ rfl _ _ 28 rfl w.heap.size 105 i0 _ 6 64 Tryz.underlying28 hi0 hz0 hz1 hz2 rfl (by decide) _ _ _ rfl HR ad l.length cp (l.flatMap Sb.c) rfl hvl hcl hv1 (by unfold maxLen; omega) hfit (by omega) ?_; intro v2 w2 hown2 hgrow2 _; have H2 : Hid (w2.ownsRow w.heap.size 105 6 v2 l.length (l.flatMap Sb.c) ∧ Below w.heap.size w w2) := ⟨by simpa using hown2, (Below.refl _ w).grown hgrow2 (Nat.le_refl _) (fun k hk => by cases hk)⟩; clear hown2 hgrow2 HR hcl hvl hv1)
    go_ret
    exact ⟨_, rfl, H2.out⟩

set_option maxHeartbeats 1000000 in
set_option maxRecDepth 100000 in
theorem freshKp_any {w : World} {v : Value} {l : List Kp} (h : Rr 3 Kp.c w v l) (hn : l.length * 24 ≤ 211106232528000) :
    Calls Tryz.prog 56 #[v] w fun e w' => ∃ v', e = .returned v' ∧ w'.ownsRow w.heap.size 107 3 v' l.length (l.flatMap Kp.c) ∧ Below w.heap.size w w' := by
  obtain ⟨i0, hi0, hz0, hz1, hz2⟩ := info_parts infoKp
  have HR := World.ownsRow_nil w w.heap.size 107 3
  obtain ⟨a, cp, rfl, hcp, -⟩ := id h
  cases a with
  | none =>
    have hl : l = [] := List.eq_nil_of_length_eq_zero (by have := hcp.1; have := hcp.2 rfl; omega)
    subst hl
    obtain rfl := hcp.2 rfl
    have H2 : Hid (w.ownsRow w.heap.size 107 3 (.slice none 0 0) 0 []) := HR
    clear HR h
    go_enter Tryz.func56, Tryz.ntmps56
    go_wp2_with (at_builtin; refine wpList_append_own_none rfl _ _ 29 rfl w.heap.size 107 i0 3 Tryz.underlying29 hi0 _ _ _ rfl H2.out rfl ?_)
    go_ret
    exact ⟨_, rfl, H2.out, Below.refl _ _⟩
  | some ad =>
    have hcl := h.cells Kp.k (by decide)
    have hvl := fm_len Kp.k l
    have hv1 := Kp.one (l := l)
    have hfit : (0 + l.length + (0 + l.length) / 4 + 192) * 24 ≤ 281474976710656 := by omega
    clear h
    go_enter Tryz.func56, Tryz.ntmps56
    go_wp2_with (at_builtin; refine wpList_append_own_wide _ rfl _ _ 29 rfl w.heap.size 107 i0 _ 3 24 Tryz.underlying29 hi0 hz0 hz1 hz2 rfl (by decide) _ _ _ rfl HR ad l.length cp (l.flatMap Kp.c) rfl hvl hcl hv1 (by unfold maxLen; omega) hfit (by omega) ?_; intro v2 w2 hown2 hgrow2 _; have H2 : Hid (w2.ownsRow w.heap.size 107 3 v2 l.length (l.flatMap Kp.c) ∧ Below w.heap.size w w2) := ⟨by simpa using hown2, (Below.refl _ w).grown hgrow2 (Nat.le_refl _) (fun k hk => by cases hk)⟩; clear hown2 hgrow2 HR hcl hvl hv1)
    go_ret
    exact ⟨_, rfl, H2.out⟩

set_option maxHeartbeats 1000000 in
set_option maxRecDepth 100000 in
theorem freshLs_any {w : World} {v : Value} {l : List Ls} (h : Rr 7 Ls.c w v l) (h0 : ∀ x ∈ l, x.vv.oneCell' = true) (hn : l.length * 88 ≤ 211106232528000) :
    Calls Tryz.prog 69 #[v] w fun e w' => ∃ v', e = .returned v' ∧ w'.ownsRow w.heap.size 109 7 v' l.length (l.flatMap Ls.c) ∧ Below w.heap.size w w' := by
  obtain ⟨i0, hi0, hz0, hz1, hz2⟩ := info_parts infoLs
  have HR := World.ownsRow_nil w w.heap.size 109 7
  obtain ⟨a, cp, rfl, hcp, -⟩ := id h
  cases a with
  | none =>
    have hl : l = [] := List.eq_nil_of_length_eq_zero (by have := hcp.1; have := hcp.2 rfl; omega)
    subst hl
    obtain rfl := hcp.2 rfl
    have H2 : Hid (w.ownsRow w.heap.size 109 7 (.slice none 0 0) 0 []) := HR
    clear HR h
    go_enter Tryz.func69, Tryz.ntmps69
    go_wp2_with (at_builtin; refine wpList_append_own_none rfl _ _ 30 rfl w.heap.size 109 i0 7 Tryz.underlying30 hi0 _ _ _ rfl H2.out rfl ?_)
    go_ret
    exact ⟨_, rfl, H2.out, Below.refl _ _⟩
  | some ad =>
    have hcl := h.cells Ls.k (by decide)
    have hvl := fm_len Ls.k l
    have hv1 := Ls.one (l := l) h0
    have hfit : (0 + l.length + (0 + l.length) / 4 + 192) * 88 ≤ 281474976710656 := by omega
    clear h
    go_enter Tryz.func69, Tryz.ntmps69
    go_wp2_with (at_builtin; refine wpList_append_own_wide _ rfl _ _ 30 rfl w.heap.size 109 i0 _ 7 88 Tryz.underlying30 hi0 hz0 hz1 hz2 rfl (by decide) _ _ _ rfl HR ad l.length cp (l.flatMap Ls.c) rfl hvl hcl hv1 (by unfold maxLen; omega) hfit (by omega) ?_; intro v2 w2 hown2 hgrow2 _; have H2 : Hid (w2.ownsRow w.heap.size 109 7 v2 l.length (l.flatMap Ls.c) ∧ Below w.heap.size w w2) := ⟨by simpa using hown2, (Below.refl _ w).grown hgrow2 (Nat.le_refl _) (fun k hk => by cases hk)⟩; clear hown2 hgrow2 HR hcl hvl hv1)
    go_ret
    exact ⟨_, rfl, H2.out⟩

set_option maxHeartbeats 1000000 in
set_option maxRecDepth 100000 in
theorem freshMs_any {w : World} {v : Value} {l : List Ms} (h : Rr 7 Ms.c w v l) (h0 : ∀ x ∈ l, x.vv.oneCell' = true) (h1 : ∀ x ∈ l, x.iv.oneCell' = true) (hn : l.length * 112 ≤ 211106232528000) :
    Calls Tryz.prog 70 #[v] w fun e w' => ∃ v', e = .returned v' ∧ w'.ownsRow w.heap.size 112 7 v' l.length (l.flatMap Ms.c) ∧ Below w.heap.size w w' := by
  obtain ⟨i0, hi0, hz0, hz1, hz2⟩ := info_parts infoMs
  have HR := World.ownsRow_nil w w.heap.size 112 7
  obtain ⟨a, cp, rfl, hcp, -⟩ := id h
  cases a with
  | none =>
    have hl : l = [] := List.eq_nil_of_length_eq_zero (by have := hcp.1; have := hcp.2 rfl; omega)
    subst hl
    obtain rfl := hcp.2 rfl
    have H2 : Hid (w.ownsRow w.heap.size 112 7 (.slice none 0 0) 0 []) := HR
    clear HR h
    go_enter Tryz.func70, Tryz.ntmps70
    go_wp2_with (at_builtin; refine wpList_append_own_none rfl _ _ 31 rfl w.heap.size 112 i0 7 Tryz.underlying31 hi0 _ _ _ rfl H2.out rfl ?_)
    go_ret
    exact ⟨_, rfl, H2.out, Below.refl _ _⟩
  | some ad =>
    have hcl := h.cells Ms.k (by decide)
    have hvl := fm_len Ms.k l
    have hv1 := Ms.one (l := l) h0 h1
    have hfit : (0 + l.length + (0 + l.length) / 4 + 192) * 112 ≤ 281474976710656 := by omega
    clear h
    go_enter Tryz.func70, Tryz.ntmps70
    go_wp2_with (at_builtin; refine wpList_append_own_wide _ rfl _ _ 31 rfl w.heap.size 112 i0 _ 7 112 Tryz.underlying31 hi0 hz0 hz1 hz2 rfl (by decide) _ _ _ rfl HR ad l.length cp (l.flatMap Ms.c) rfl hvl hcl hv1 (by unfold maxLen; omega) hfit (by omega) ?_; intro v2 w2 hown2 hgrow2 _; have H2 : Hid (w2.ownsRow w.heap.size 112 7 v2 l.length (l.flatMap Ms.c) ∧ Below w.heap.size w w2) := ⟨by simpa using hown2, (Below.refl _ w).grown hgrow2 (Nat.le_refl _) (fun k hk => by cases hk)⟩; clear hown2 hgrow2 HR hcl hvl hv1)
    go_ret
    exact ⟨_, rfl, H2.out⟩

set_option maxHeartbeats 1000000 in
set_option maxRecDepth 100000 in
theorem freshVr_any {w : World} {v : Value} {l : List Vr} (h : Rr 4 Vr.c w v l) (hn : l.length * 48 ≤ 211106232528000) :
    Calls Tryz.prog 51 #[v] w fun e w' => ∃ v', e = .returned v' ∧ w'.ownsRow w.heap.size 125 4 v' l.length (l.flatMap Vr.c) ∧ Below w.heap.size w w' := by
  obtain ⟨i0, hi0, hz0, hz1, hz2⟩ := info_parts infoVr
  have HR := World.ownsRow_nil w w.heap.size 125 4
  obtain ⟨a, cp, rfl, hcp, -⟩ := id h
  cases a with
  | none =>
    have hl : l = [] := List.eq_nil_of_length_eq_zero (by have := hcp.1; have := hcp.2 rfl; omega)
    subst hl
    obtain rfl := hcp.2 rfl
    have H2 : Hid (w.ownsRow w.heap.size 125 4 (.slice none 0 0) 0 []) := HR
    clear HR h
    go_enter Tryz.func51, Tryz.ntmps51
    go_wp2_with (at_builtin; refine wpList_append_own_none rfl _ _ 81 rfl w.heap.size 125 i0 4 Tryz.underlying81 hi0 _ _ _ rfl H2.out rfl ?_)
    go_ret
    exact ⟨_, rfl, H2.out, Below.refl _ _⟩
  | some ad =>
    have hcl := h.cells Vr.k (by decide)
    have hvl := fm_len Vr.k l
    have hv1 := Vr.one (l := l)
    have hfit : (0 + l.length + (0 + l.length) / 4 + 192) * 48 ≤ 281474976710656 := by omega
    clear h
    go_enter Tryz.func51, Tryz.ntmps51
    go_wp2_with (at_builtin; refine wpList_append_own_wide _ rfl _ _ 81 rfl w.heap.size 125 i0 _ 4 48 Tryz.underlying81 hi0 hz0 hz1 hz2 rfl (by decide) _ _ _ rfl HR ad l.length cp (l.flatMap Vr.c) rfl hvl hcl hv1 (by unfold maxLen; omega) hfit (by omega) ?_; intro v2 w2 hown2 hgrow2 _; have H2 : Hid (w2.ownsRow w.heap.size 125 4 v2 l.length (l.flatMap Vr.c) ∧ Below w.heap.size w w2) := ⟨by simpa using hown2, (Below.refl _ w).grown hgrow2 (Nat.le_refl _) (fun k hk => by cases hk)⟩; clear hown2 hgrow2 HR hcl hvl hv1)
    go_ret
    exact ⟨_, rfl, H2.out⟩

set_option maxHeartbeats 1000000 in
set_option maxRecDepth 100000 in
theorem freshUn_any {w : World} {v : Value} {l : List Un} (h : Rr 1 Un.c w v l) (hn : l.length * 8 ≤ 211106232528000) :
    Calls Tryz.prog 61 #[v] w fun e w' => ∃ v', e = .returned v' ∧ w'.ownsRow w.heap.size 22 1 v' l.length (l.flatMap Un.c) ∧ Below w.heap.size w w' := by
  obtain ⟨i0, hi0, hz0, hz1, hz2⟩ := info_parts infoUn
  have HR := World.ownsRow_nil w w.heap.size 22 1
  obtain ⟨a, cp, rfl, hcp, -⟩ := id h
  cases a with
  | none =>
    have hl : l = [] := List.eq_nil_of_length_eq_zero (by have := hcp.1; have := hcp.2 rfl; omega)
    subst hl
    obtain rfl := hcp.2 rfl
    have H2 : Hid (w.ownsRow w.heap.size 22 1 (.slice none 0 0) 0 []) := HR
    clear HR h
    go_enter Tryz.func61, Tryz.ntmps61
    go_wp2_with (at_builtin; refine wpList_append_own_none rfl _ _ 110 rfl w.heap.size 22 i0 1 Tryz.underlying110 hi0 _ _ _ rfl H2.out rfl ?_)
    go_ret
    exact ⟨_, rfl, H2.out, Below.refl _ _⟩
  | some ad =>
    have hcl := h.cells Un.k (by decide)
    have hvl := fm_len Un.k l
    have hv1 := Un.one (l := l)
    have hfit : (0 + l.length + (0 + l.length) / 4 + 192) * 8 ≤ 281474976710656 := by omega
    clear h
    go_enter Tryz.func61, Tryz.ntmps61
    go_wp2_with (at_builtin; refine wpList_append_own_wide _ rfl _ _ 110 rfl w.heap.size 22 i0 _ 1 8 Tryz.underlying110 hi0 hz0 hz1 hz2 rfl (by decide) _ _ _ rfl HR ad l.length cp (l.flatMap Un.c) rfl hvl hcl hv1 (by unfold maxLen; omega) hfit (by omega) ?_; intro v2 w2 hown2 hgrow2 _; have H2 : Hid (w2.ownsRow w.heap.size 22 1 v2 l.length (l.flatMap Un.c) ∧ Below w.heap.size w w2) := ⟨by simpa using hown2, (Below.refl _ w).grown hgrow2 (Nat.le_refl _) (fun k hk => by cases hk)⟩; clear hown2 hgrow2 HR hcl hvl hv1)
    go_ret
    exact ⟨_, rfl, H2.out⟩
end Go.Proofs.YtbegpbaklagcpaaGreat.f13
