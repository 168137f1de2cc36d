/-
  Package fold's fresh, of every type that it is called with: a list in new memory.
-/
import Derived.Test.YtmfempdcpoeicaaGreatF13Base
set_option maxHeartbeats 1000000
set_option maxRecDepth 100000
namespace Go.Proofs.YtmfempdcpoeicaaGreat.f13
open Go.RowKit Go.Shelf Go.Sort
open Go.Lib hiding intOf

theorem freshDe_any {w : World} {v : Value} {l : List De} (h : Rr 2 De.c w v l) (hn : l.length * 32 ≤ 211106232528000) :
   Calls Tryz.prog 11 #[v] w fun e w'=>∃v',e=.returned v'∧w'.ownsRow w.heap.size 55 2 v' l.length (l.flatMap De.c)∧Below w.heap.size w w':=by
 obtain ⟨i0,hi0,hz0,hz1,hz2⟩:=info_parts infoDe
 have HR:=World.ownsRow_nil w w.heap.size 55 2
 obtain ⟨a,cp,rfl,hcp,-⟩:=id h
 cases a with
 | none =>
   have hl:l=[]:=List.eq_nil_of_length_eq_zero (by have:=hcp.1;have:=hcp.2 rfl;omega)
   subst hl
   obtain rfl:=hcp.2 rfl
   have H2:Hid (w.ownsRow w.heap.size 55 2 (.slice none 0 0) 0 []):=HR
   clear HR h
   go_enter Tryz.func11,Tryz.ntmps11
   go_wp2_with (at_builtin;refine wpList_append_own_none rfl _ _ 23 rfl w.heap.size 55 i0 2 Tryz.underlying23 hi0 _ _ _ rfl H2.out rfl ?_)
   go_ret
   exact ⟨_,rfl,H2.out,brf⟩
 | some ad =>
   have hcl:=h.cells De.k (by decide)
   have hvl:=fm_len De.k l
   have hv1:=De.one (l:=l)
   have hfit:(0+l.length+(0+l.length) / 4+192)*32≤281474976710656:=by omega
   clear h
   go_enter Tryz.func11,Tryz.ntmps11
   go_wp2_with (at_builtin;refine wpList_append_own_wide _ rfl _ _ 23 rfl w.heap.size 55 i0 _ 2 32 Tryz.underlying23 hi0 hz0 hz1 hz2 rfl (by decide) _ _ _ rfl HR ad l.length cp (l.flatMap De.c) rfl hvl hcl hv1 (by unfold maxLen;omega) hfit (by omega) ?_;intro v2 w2 hown2 hgrow2 _;have H2:Hid (w2.ownsRow w.heap.size 55 2 v2 l.length (l.flatMap De.c)∧Below w.heap.size w w2):=⟨by simpa using hown2,(Below.refl _ w).grown hgrow2 nlr (fun k hk=>by cases hk)⟩;clear hown2 hgrow2 HR hcl hvl hv1)
   go_ret
   exact ⟨_,rfl,H2.out⟩

theorem freshIn_any {w : World} {v : Value} {l : List In} (h : Rr 3 In.c w v l) (h0 : ∀ x ∈ l, x.vv.oneCell' = true) (hn : l.length * 48 ≤ 211106232528000) :
   Calls Tryz.prog 62 #[v] w fun e w'=>∃v',e=.returned v'∧w'.ownsRow w.heap.size 58 3 v' l.length (l.flatMap In.c)∧Below w.heap.size w w':=by
 obtain ⟨i0,hi0,hz0,hz1,hz2⟩:=info_parts infoIn
 have HR:=World.ownsRow_nil w w.heap.size 58 3
 obtain ⟨a,cp,rfl,hcp,-⟩:=id h
 cases a with
 | none =>
   have hl:l=[]:=List.eq_nil_of_length_eq_zero (by have:=hcp.1;have:=hcp.2 rfl;omega)
   subst hl
   obtain rfl:=hcp.2 rfl
   have H2:Hid (w.ownsRow w.heap.size 58 3 (.slice none 0 0) 0 []):=HR
   clear HR h
   go_enter Tryz.func62,Tryz.ntmps62
   go_wp2_with (at_builtin;refine wpList_append_own_none rfl _ _ 24 rfl w.heap.size 58 i0 3 Tryz.underlying24 hi0 _ _ _ rfl H2.out rfl ?_)
   go_ret
   exact ⟨_,rfl,H2.out,brf⟩
 | some ad =>
   have hcl:=h.cells In.k (by decide)
   have hvl:=fm_len In.k l
   have hv1:=In.one (l:=l) h0
   have hfit:(0+l.length+(0+l.length) / 4+192)*48≤281474976710656:=by omega
   clear h
   go_enter Tryz.func62,Tryz.ntmps62
   go_wp2_with (at_builtin;refine wpList_append_own_wide _ rfl _ _ 24 rfl w.heap.size 58 i0 _ 3 48 Tryz.underlying24 hi0 hz0 hz1 hz2 rfl (by decide) _ _ _ rfl HR ad l.length cp (l.flatMap In.c) rfl hvl hcl hv1 (by unfold maxLen;omega) hfit (by omega) ?_;intro v2 w2 hown2 hgrow2 _;have H2:Hid (w2.ownsRow w.heap.size 58 3 v2 l.length (l.flatMap In.c)∧Below w.heap.size w w2):=⟨by simpa using hown2,(Below.refl _ w).grown hgrow2 nlr (fun k hk=>by cases hk)⟩;clear hown2 hgrow2 HR hcl hvl hv1)
   go_ret
   exact ⟨_,rfl,H2.out⟩

theorem freshTk_any {w : World} {v : Value} {l : List Tk} (h : Rr 6 Tk.c w v l) (hn : l.length * 56 ≤ 211106232528000) :
   Calls Tryz.prog 15 #[v] w fun e w'=>∃v',e=.returned v'∧w'.ownsRow w.heap.size 44 6 v' l.length (l.flatMap Tk.c)∧Below w.heap.size w w':=by
 obtain ⟨i0,hi0,hz0,hz1,hz2⟩:=info_parts infoTk
 have HR:=World.ownsRow_nil w w.heap.size 44 6
 obtain ⟨a,cp,rfl,hcp,-⟩:=id h
 cases a with
 | none =>
   have hl:l=[]:=List.eq_nil_of_length_eq_zero (by have:=hcp.1;have:=hcp.2 rfl;omega)
   subst hl
   obtain rfl:=hcp.2 rfl
   have H2:Hid (w.ownsRow w.heap.size 44 6 (.slice none 0 0) 0 []):=HR
   clear HR h
   go_enter Tryz.func15,Tryz.ntmps15
   go_wp2_with (at_builtin;refine wpList_append_own_none rfl _ _ 25 rfl w.heap.size 44 i0 6 Tryz.underlying25 hi0 _ _ _ rfl H2.out rfl ?_)
   go_ret
   exact ⟨_,rfl,H2.out,brf⟩
 | some ad =>
   have hcl:=h.cells Tk.k (by decide)
   have hvl:=fm_len Tk.k l
   have hv1:=Tk.one (l:=l)
   have hfit:(0+l.length+(0+l.length) / 4+192)*56≤281474976710656:=by omega
   clear h
   go_enter Tryz.func15,Tryz.ntmps15
   go_wp2_with (at_builtin;refine wpList_append_own_wide _ rfl _ _ 25 rfl w.heap.size 44 i0 _ 6 56 Tryz.underlying25 hi0 hz0 hz1 hz2 rfl (by decide) _ _ _ rfl HR ad l.length cp (l.flatMap Tk.c) rfl hvl hcl hv1 (by unfold maxLen;omega) hfit (by omega) ?_;intro v2 w2 hown2 hgrow2 _;have H2:Hid (w2.ownsRow w.heap.size 44 6 v2 l.length (l.flatMap Tk.c)∧Below w.heap.size w w2):=⟨by simpa using hown2,(Below.refl _ w).grown hgrow2 nlr (fun k hk=>by cases hk)⟩;clear hown2 hgrow2 HR hcl hvl hv1)
   go_ret
   exact ⟨_,rfl,H2.out⟩

theorem freshJb_any {w : World} {v : Value} {l : List Jb} (h : Rr 6 Jb.c w v l) (hn : l.length * 64 ≤ 211106232528000) :
   Calls Tryz.prog 16 #[v] w fun e w'=>∃v',e=.returned v'∧w'.ownsRow w.heap.size 69 6 v' l.length (l.flatMap Jb.c)∧Below w.heap.size w w':=by
 obtain ⟨i0,hi0,hz0,hz1,hz2⟩:=info_parts infoJb
 have HR:=World.ownsRow_nil w w.heap.size 69 6
 obtain ⟨a,cp,rfl,hcp,-⟩:=id h
 cases a with
 | none =>
   have hl:l=[]:=List.eq_nil_of_length_eq_zero (by have:=hcp.1;have:=hcp.2 rfl;omega)
   subst hl
   obtain rfl:=hcp.2 rfl
   have H2:Hid (w.ownsRow w.heap.size 69 6 (.slice none 0 0) 0 []):=HR
   clear HR h
   go_enter Tryz.func16,Tryz.ntmps16
   go_wp2_with (at_builtin;refine wpList_append_own_none rfl _ _ 26 rfl w.heap.size 69 i0 6 Tryz.underlying26 hi0 _ _ _ rfl H2.out rfl ?_)
   go_ret
   exact ⟨_,rfl,H2.out,brf⟩
 | some ad =>
   have hcl:=h.cells Jb.k (by decide)
   have hvl:=fm_len Jb.k l
   have hv1:=Jb.one (l:=l)
   have hfit:(0+l.length+(0+l.length) / 4+192)*64≤281474976710656:=by omega
   clear h
   go_enter Tryz.func16,Tryz.ntmps16
   go_wp2_with (at_builtin;refine wpList_append_own_wide _ rfl _ _ 26 rfl w.heap.size 69 i0 _ 6 64 Tryz.underlying26 hi0 hz0 hz1 hz2 rfl (by decide) _ _ _ rfl HR ad l.length cp (l.flatMap Jb.c) rfl hvl hcl hv1 (by unfold maxLen;omega) hfit (by omega) ?_;intro v2 w2 hown2 hgrow2 _;have H2:Hid (w2.ownsRow w.heap.size 69 6 v2 l.length (l.flatMap Jb.c)∧Below w.heap.size w w2):=⟨by simpa using hown2,(Below.refl _ w).grown hgrow2 nlr (fun k hk=>by cases hk)⟩;clear hown2 hgrow2 HR hcl hvl hv1)
   go_ret
   exact ⟨_,rfl,H2.out⟩

theorem freshTm_any {w : World} {v : Value} {l : List Tm} (h : Rr 3 Tm.c w v l) (hn : l.length * 24 ≤ 211106232528000) :
   Calls Tryz.prog 17 #[v] w fun e w'=>∃v',e=.returned v'∧w'.ownsRow w.heap.size 72 3 v' l.length (l.flatMap Tm.c)∧Below w.heap.size w w':=by
 obtain ⟨i0,hi0,hz0,hz1,hz2⟩:=info_parts infoTm
 have HR:=World.ownsRow_nil w w.heap.size 72 3
 obtain ⟨a,cp,rfl,hcp,-⟩:=id h
 cases a with
 | none =>
   have hl:l=[]:=List.eq_nil_of_length_eq_zero (by have:=hcp.1;have:=hcp.2 rfl;omega)
   subst hl
   obtain rfl:=hcp.2 rfl
   have H2:Hid (w.ownsRow w.heap.size 72 3 (.slice none 0 0) 0 []):=HR
   clear HR h
   go_enter Tryz.func17,Tryz.ntmps17
   go_wp2_with (at_builtin;refine wpList_append_own_none rfl _ _ 27 rfl w.heap.size 72 i0 3 Tryz.underlying27 hi0 _ _ _ rfl H2.out rfl ?_)
   go_ret
   exact ⟨_,rfl,H2.out,brf⟩
 | some ad =>
   have hcl:=h.cells Tm.k (by decide)
   have hvl:=fm_len Tm.k l
   have hv1:=Tm.one (l:=l)
   have hfit:(0+l.length+(0+l.length) / 4+192)*24≤281474976710656:=by omega
   clear h
   go_enter Tryz.func17,Tryz.ntmps17
   go_wp2_with (at_builtin;refine wpList_append_own_wide _ rfl _ _ 27 rfl w.heap.size 72 i0 _ 3 24 Tryz.underlying27 hi0 hz0 hz1 hz2 rfl (by decide) _ _ _ rfl HR ad l.length cp (l.flatMap Tm.c) rfl hvl hcl hv1 (by unfold maxLen;omega) hfit (by omega) ?_;intro v2 w2 hown2 hgrow2 _;have H2:Hid (w2.ownsRow w.heap.size 72 3 v2 l.length (l.flatMap Tm.c)∧Below w.heap.size w w2):=⟨by simpa using hown2,(Below.refl _ w).grown hgrow2 nlr (fun k hk=>by cases hk)⟩;clear hown2 hgrow2 HR hcl hvl hv1)
   go_ret
   exact ⟨_,rfl,H2.out⟩

theorem freshSb_any {w : World} {v : Value} {l : List Sb} (h : Rr 6 Sb.c w v l) (hn : l.length * 64 ≤ 211106232528000) :
   Calls Tryz.prog 18 #[v] w fun e w'=>∃v',e=.returned v'∧w'.ownsRow w.heap.size 75 6 v' l.length (l.flatMap Sb.c)∧Below w.heap.size w w':=by
 obtain ⟨i0,hi0,hz0,hz1,hz2⟩:=info_parts infoSb
 have HR:=World.ownsRow_nil w w.heap.size 75 6
 obtain ⟨a,cp,rfl,hcp,-⟩:=id h
 cases a with
 | none =>
   have hl:l=[]:=List.eq_nil_of_length_eq_zero (by have:=hcp.1;have:=hcp.2 rfl;omega)
   subst hl
   obtain rfl:=hcp.2 rfl
   have H2:Hid (w.ownsRow w.heap.size 75 6 (.slice none 0 0) 0 []):=HR
   clear HR h
   go_enter Tryz.func18,Tryz.ntmps18
   go_wp2_with (at_builtin;refine wpList_append_own_none rfl _ _ 28 rfl w.heap.size 75 i0 6 Tryz.underlying28 hi0 _ _ _ rfl H2.out rfl ?_)
   go_ret
   exact ⟨_,rfl,H2.out,brf⟩
 | some ad =>
   have hcl:=h.cells Sb.k (by decide)
   have hvl:=fm_len Sb.k l
   have hv1:=Sb.one (l:=l)
   have hfit:(0+l.length+(0+l.length) / 4+192)*64≤281474976710656:=by omega
   clear h
   go_enter Tryz.func18,Tryz.ntmps18
   go_wp2_with (at_builtin;refine wpList_append_own_wide _ rfl _ _ 28 rfl w.heap.size 75 i0 _ 6 64 Tryz.underlying28 hi0 hz0 hz1 hz2 rfl (by decide) _ _ _ rfl HR ad l.length cp (l.flatMap Sb.c) rfl hvl hcl hv1 (by unfold maxLen;omega) hfit (by omega) ?_;intro v2 w2 hown2 hgrow2 _;have H2:Hid (w2.ownsRow w.heap.size 75 6 v2 l.length (l.flatMap Sb.c)∧Below w.heap.size w w2):=⟨by simpa using hown2,(Below.refl _ w).grown hgrow2 nlr (fun k hk=>by cases hk)⟩;clear hown2 hgrow2 HR hcl hvl hv1)
   go_ret
   exact ⟨_,rfl,H2.out⟩

theorem freshKp_any {w : World} {v : Value} {l : List Kp} (h : Rr 3 Kp.c w v l) (hn : l.length * 24 ≤ 211106232528000) :
   Calls Tryz.prog 19 #[v] w fun e w'=>∃v',e=.returned v'∧w'.ownsRow w.heap.size 78 3 v' l.length (l.flatMap Kp.c)∧Below w.heap.size w w':=by
 obtain ⟨i0,hi0,hz0,hz1,hz2⟩:=info_parts infoKp
 have HR:=World.ownsRow_nil w w.heap.size 78 3
 obtain ⟨a,cp,rfl,hcp,-⟩:=id h
 cases a with
 | none =>
   have hl:l=[]:=List.eq_nil_of_length_eq_zero (by have:=hcp.1;have:=hcp.2 rfl;omega)
   subst hl
   obtain rfl:=hcp.2 rfl
   have H2:Hid (w.ownsRow w.heap.size 78 3 (.slice none 0 0) 0 []):=HR
   clear HR h
   go_enter Tryz.func19,Tryz.ntmps19
   go_wp2_with (at_builtin;refine wpList_append_own_none rfl _ _ 29 rfl w.heap.size 78 i0 3 Tryz.underlying29 hi0 _ _ _ rfl H2.out rfl ?_)
   go_ret
   exact ⟨_,rfl,H2.out,brf⟩
 | some ad =>
   have hcl:=h.cells Kp.k (by decide)
   have hvl:=fm_len Kp.k l
   have hv1:=Kp.one (l:=l)
   have hfit:(0+l.length+(0+l.length) / 4+192)*24≤281474976710656:=by omega
   clear h
   go_enter Tryz.func19,Tryz.ntmps19
   go_wp2_with (at_builtin;refine wpList_append_own_wide _ rfl _ _ 29 rfl w.heap.size 78 i0 _ 3 24 Tryz.underlying29 hi0 hz0 hz1 hz2 rfl (by decide) _ _ _ rfl HR ad l.length cp (l.flatMap Kp.c) rfl hvl hcl hv1 (by unfold maxLen;omega) hfit (by omega) ?_;intro v2 w2 hown2 hgrow2 _;have H2:Hid (w2.ownsRow w.heap.size 78 3 v2 l.length (l.flatMap Kp.c)∧Below w.heap.size w w2):=⟨by simpa using hown2,(Below.refl _ w).grown hgrow2 nlr (fun k hk=>by cases hk)⟩;clear hown2 hgrow2 HR hcl hvl hv1)
   go_ret
   exact ⟨_,rfl,H2.out⟩

theorem freshLs_any {w : World} {v : Value} {l : List Ls} (h : Rr 7 Ls.c w v l) (h0 : ∀ x ∈ l, x.vv.oneCell' = true) (hn : l.length * 88 ≤ 211106232528000) :
   Calls Tryz.prog 63 #[v] w fun e w'=>∃v',e=.returned v'∧w'.ownsRow w.heap.size 81 7 v' l.length (l.flatMap Ls.c)∧Below w.heap.size w w':=by
 obtain ⟨i0,hi0,hz0,hz1,hz2⟩:=info_parts infoLs
 have HR:=World.ownsRow_nil w w.heap.size 81 7
 obtain ⟨a,cp,rfl,hcp,-⟩:=id h
 cases a with
 | none =>
   have hl:l=[]:=List.eq_nil_of_length_eq_zero (by have:=hcp.1;have:=hcp.2 rfl;omega)
   subst hl
   obtain rfl:=hcp.2 rfl
   have H2:Hid (w.ownsRow w.heap.size 81 7 (.slice none 0 0) 0 []):=HR
   clear HR h
   go_enter Tryz.func63,Tryz.ntmps63
   go_wp2_with (at_builtin;refine wpList_append_own_none rfl _ _ 30 rfl w.heap.size 81 i0 7 Tryz.underlying30 hi0 _ _ _ rfl H2.out rfl ?_)
   go_ret
   exact ⟨_,rfl,H2.out,brf⟩
 | some ad =>
   have hcl:=h.cells Ls.k (by decide)
   have hvl:=fm_len Ls.k l
   have hv1:=Ls.one (l:=l) h0
   have hfit:(0+l.length+(0+l.length) / 4+192)*88≤281474976710656:=by omega
   clear h
   go_enter Tryz.func63,Tryz.ntmps63
   go_wp2_with (at_builtin;refine wpList_append_own_wide _ rfl _ _ 30 rfl w.heap.size 81 i0 _ 7 88 Tryz.underlying30 hi0 hz0 hz1 hz2 rfl (by decide) _ _ _ rfl HR ad l.length cp (l.flatMap Ls.c) rfl hvl hcl hv1 (by unfold maxLen;omega) hfit (by omega) ?_;intro v2 w2 hown2 hgrow2 _;have H2:Hid (w2.ownsRow w.heap.size 81 7 v2 l.length (l.flatMap Ls.c)∧Below w.heap.size w w2):=⟨by simpa using hown2,(Below.refl _ w).grown hgrow2 nlr (fun k hk=>by cases hk)⟩;clear hown2 hgrow2 HR hcl hvl hv1)
   go_ret
   exact ⟨_,rfl,H2.out⟩

theorem freshMs_any {w : World} {v : Value} {l : List Ms} (h : Rr 7 Ms.c w v l) (h0 : ∀ x ∈ l, x.vv.oneCell' = true) (h1 : ∀ x ∈ l, x.iv.oneCell' = true) (hn : l.length * 112 ≤ 211106232528000) :
   Calls Tryz.prog 64 #[v] w fun e w'=>∃v',e=.returned v'∧w'.ownsRow w.heap.size 87 7 v' l.length (l.flatMap Ms.c)∧Below w.heap.size w w':=by
 obtain ⟨i0,hi0,hz0,hz1,hz2⟩:=info_parts infoMs
 have HR:=World.ownsRow_nil w w.heap.size 87 7
 obtain ⟨a,cp,rfl,hcp,-⟩:=id h
 cases a with
 | none =>
   have hl:l=[]:=List.eq_nil_of_length_eq_zero (by have:=hcp.1;have:=hcp.2 rfl;omega)
   subst hl
   obtain rfl:=hcp.2 rfl
   have H2:Hid (w.ownsRow w.heap.size 87 7 (.slice none 0 0) 0 []):=HR
   clear HR h
   go_enter Tryz.func64,Tryz.ntmps64
   go_wp2_with (at_builtin;refine wpList_append_own_none rfl _ _ 31 rfl w.heap.size 87 i0 7 Tryz.underlying31 hi0 _ _ _ rfl H2.out rfl ?_)
   go_ret
   exact ⟨_,rfl,H2.out,brf⟩
 | some ad =>
   have hcl:=h.cells Ms.k (by decide)
   have hvl:=fm_len Ms.k l
   have hv1:=Ms.one (l:=l) h0 h1
   have hfit:(0+l.length+(0+l.length) / 4+192)*112≤281474976710656:=by omega
   clear h
   go_enter Tryz.func64,Tryz.ntmps64
   go_wp2_with (at_builtin;refine wpList_append_own_wide _ rfl _ _ 31 rfl w.heap.size 87 i0 _ 7 112 Tryz.underlying31 hi0 hz0 hz1 hz2 rfl (by decide) _ _ _ rfl HR ad l.length cp (l.flatMap Ms.c) rfl hvl hcl hv1 (by unfold maxLen;omega) hfit (by omega) ?_;intro v2 w2 hown2 hgrow2 _;have H2:Hid (w2.ownsRow w.heap.size 87 7 v2 l.length (l.flatMap Ms.c)∧Below w.heap.size w w2):=⟨by simpa using hown2,(Below.refl _ w).grown hgrow2 nlr (fun k hk=>by cases hk)⟩;clear hown2 hgrow2 HR hcl hvl hv1)
   go_ret
   exact ⟨_,rfl,H2.out⟩

theorem freshVr_any {w : World} {v : Value} {l : List Vr} (h : Rr 4 Vr.c w v l) (hn : l.length * 48 ≤ 211106232528000) :
   Calls Tryz.prog 14 #[v] w fun e w'=>∃v',e=.returned v'∧w'.ownsRow w.heap.size 64 4 v' l.length (l.flatMap Vr.c)∧Below w.heap.size w w':=by
 obtain ⟨i0,hi0,hz0,hz1,hz2⟩:=info_parts infoVr
 have HR:=World.ownsRow_nil w w.heap.size 64 4
 obtain ⟨a,cp,rfl,hcp,-⟩:=id h
 cases a with
 | none =>
   have hl:l=[]:=List.eq_nil_of_length_eq_zero (by have:=hcp.1;have:=hcp.2 rfl;omega)
   subst hl
   obtain rfl:=hcp.2 rfl
   have H2:Hid (w.ownsRow w.heap.size 64 4 (.slice none 0 0) 0 []):=HR
   clear HR h
   go_enter Tryz.func14,Tryz.ntmps14
   go_wp2_with (at_builtin;refine wpList_append_own_none rfl _ _ 37 rfl w.heap.size 64 i0 4 Tryz.underlying37 hi0 _ _ _ rfl H2.out rfl ?_)
   go_ret
   exact ⟨_,rfl,H2.out,brf⟩
 | some ad =>
   have hcl:=h.cells Vr.k (by decide)
   have hvl:=fm_len Vr.k l
   have hv1:=Vr.one (l:=l)
   have hfit:(0+l.length+(0+l.length) / 4+192)*48≤281474976710656:=by omega
   clear h
   go_enter Tryz.func14,Tryz.ntmps14
   go_wp2_with (at_builtin;refine wpList_append_own_wide _ rfl _ _ 37 rfl w.heap.size 64 i0 _ 4 48 Tryz.underlying37 hi0 hz0 hz1 hz2 rfl (by decide) _ _ _ rfl HR ad l.length cp (l.flatMap Vr.c) rfl hvl hcl hv1 (by unfold maxLen;omega) hfit (by omega) ?_;intro v2 w2 hown2 hgrow2 _;have H2:Hid (w2.ownsRow w.heap.size 64 4 v2 l.length (l.flatMap Vr.c)∧Below w.heap.size w w2):=⟨by simpa using hown2,(Below.refl _ w).grown hgrow2 nlr (fun k hk=>by cases hk)⟩;clear hown2 hgrow2 HR hcl hvl hv1)
   go_ret
   exact ⟨_,rfl,H2.out⟩

theorem freshUn_any {w : World} {v : Value} {l : List Un} (h : Rr 1 Un.c w v l) (hn : l.length * 8 ≤ 211106232528000) :
   Calls Tryz.prog 24 #[v] w fun e w'=>∃v',e=.returned v'∧w'.ownsRow w.heap.size 22 1 v' l.length (l.flatMap Un.c)∧Below w.heap.size w w':=by
 obtain ⟨i0,hi0,hz0,hz1,hz2⟩:=info_parts infoUn
 have HR:=World.ownsRow_nil w w.heap.size 22 1
 obtain ⟨a,cp,rfl,hcp,-⟩:=id h
 cases a with
 | none =>
   have hl:l=[]:=List.eq_nil_of_length_eq_zero (by have:=hcp.1;have:=hcp.2 rfl;omega)
   subst hl
   obtain rfl:=hcp.2 rfl
   have H2:Hid (w.ownsRow w.heap.size 22 1 (.slice none 0 0) 0 []):=HR
   clear HR h
   go_enter Tryz.func24,Tryz.ntmps24
   go_wp2_with (at_builtin;refine wpList_append_own_none rfl _ _ 85 rfl w.heap.size 22 i0 1 Tryz.underlying85 hi0 _ _ _ rfl H2.out rfl ?_)
   go_ret
   exact ⟨_,rfl,H2.out,brf⟩
 | some ad =>
   have hcl:=h.cells Un.k (by decide)
   have hvl:=fm_len Un.k l
   have hv1:=Un.one (l:=l)
   have hfit:(0+l.length+(0+l.length) / 4+192)*8≤281474976710656:=by omega
   clear h
   go_enter Tryz.func24,Tryz.ntmps24
   go_wp2_with (at_builtin;refine wpList_append_own_wide _ rfl _ _ 85 rfl w.heap.size 22 i0 _ 1 8 Tryz.underlying85 hi0 hz0 hz1 hz2 rfl (by decide) _ _ _ rfl HR ad l.length cp (l.flatMap Un.c) rfl hvl hcl hv1 (by unfold maxLen;omega) hfit (by omega) ?_;intro v2 w2 hown2 hgrow2 _;have H2:Hid (w2.ownsRow w.heap.size 22 1 v2 l.length (l.flatMap Un.c)∧Below w.heap.size w w2):=⟨by simpa using hown2,(Below.refl _ w).grown hgrow2 nlr (fun k hk=>by cases hk)⟩;clear hown2 hgrow2 HR hcl hvl hv1)
   go_ret
   exact ⟨_,rfl,H2.out⟩
end Go.Proofs.YtmfempdcpoeicaaGreat.f13
