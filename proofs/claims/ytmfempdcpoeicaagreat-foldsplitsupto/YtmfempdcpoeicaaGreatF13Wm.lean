/-
  Package fold's freshWithin of messages, which have two lists of their own.
-/
import Derived.Test.YtmfempdcpoeicaaGreatF13Wi
set_option maxHeartbeats 4000000
set_option maxRecDepth 100000
namespace Go.Proofs.YtmfempdcpoeicaaGreat.f13
open Go.RowKit Go.Shelf Go.Sort
open Go.Lib hiding intOf

theorem perm_two {α:Type} (A C:List α) (r q:α):(q::r::(A++C)).Perm ((A++[r])++(C++[q])):=by
 have p1:(r::(A++C)).Perm ((A++[r])++C):=by rw [List.append_assoc,List.singleton_append];exact List.perm_middle.symm
 rw [← List.append_assoc]
 exact (p1.cons q).trans (List.perm_append_singleton _ _).symm

theorem Ms.two {B : Nat} {w w1 w2 : World} {g cap i n : Nat} {M : List Ms} {l : List Ms} {v' u' : Value} (hi : i < l.length) (hM : M.length = i) (hn : l.length = n) (h : Own B w (Ms.rw (.slice (some ⟨g, 0, none⟩) n cap) (M ++ l.drop i) :: (M.map Ms.r ++ M.map Ms.q))) (hb : Below w.heap.size w w1) (hr : w1.ownsRow w.heap.size 64 4 v' l[i].vars.length (l[i].vars.flatMap Vr.c)) (hb2 : Below w1.heap.size w1 w2) (hr2 : w2.ownsRow w1.heap.size 22 1 u' l[i].its.length (l[i].its.flatMap Un.c)) (hB : B ≤ w.heap.size) (W : World) (hW : W = (w2.setCell ⟨g, i * 7 + 5, none⟩ v').setCell ⟨g, i * 7 + 6, none⟩ u' ∨ W = (w2.setCell ⟨g, i * 7 + 6, none⟩ u').setCell ⟨g, i * 7 + 5, none⟩ v') :
   Own B W (Ms.rw (.slice (some ⟨g,0,none⟩) n cap) ((M++[{ l[i] with vv:=v',iv:=u' }])++l.drop (i+1))::((M++[{ l[i] with vv:=v',iv:=u' }]).map Ms.r++(M++[{ l[i] with vv:=v',iv:=u' }]).map Ms.q))∧Ch (fun b=>(some g:Option Nat)=some b) w2 W:=by
 have hd:l.drop i=l[i]::l.drop (i+1):=(List.getElem_cons_drop (h:=hi)).symm
 have h1:=h.add (r:=Ms.r { l[i] with vv:=v',iv:=u' }) hb hr hB
 have h1':=h1.add (r:=Ms.q { l[i] with vv:=v',iv:=u' }) hb2 hr2 (Nat.le_trans hB hb.size)
 have h2:=h1'.perm (((List.Perm.swap _ _ _).cons _).trans (List.Perm.swap _ _ _))
 have hl:(M++l.drop i).length=n:=by rw [List.length_append,List.length_drop];omega
 have hg:=h2.own _ (List.mem_cons_self ..)
 have hll:i<(M++l.drop i).length:=by omega
 have hxi:(M++l.drop i)[i]=l[i]:=by rw [List.getElem_append_right (by omega)];simp [hM]
 have e1:(((M++l.drop i).flatMap Ms.c).set (i*7+5) v').set (i*7+6) u'=((M++[{ l[i] with vv:=v',iv:=u' }])++l.drop (i+1)).flatMap Ms.c:=by
   rw [fm_set Ms.k (M++l.drop i) i 5 hll (by omega) { l[i] with vv:=v' } v' (by rw [hxi];rfl),fm_set Ms.k _ i 6 (by simpa using hll) (by omega) { l[i] with vv:=v',iv:=u' } u' (by rw [List.getElem_set_self];rfl),List.set_set]
   rw [hd,set_mid hM]
 have hg':w2.ownsRow B 87 7 (.slice (some ⟨g,0,none⟩) n cap) n ((M++l.drop i).flatMap Ms.c):=by
   have:=hg
   unfold Rw.ok Ms.rw at this
   rw [hl] at this
   exact this
 have hWW:W.ownsRow B 87 7 (.slice (some ⟨g,0,none⟩) n cap) n ((((M++l.drop i).flatMap Ms.c).set (i*7+5) v').set (i*7+6) u')∧Ch (fun b=>(some g:Option Nat)=some b) w2 W:=by
   rcases hW with rfl | rfl
   · exact ⟨row_put (row_put hg' _ _) _ _,((Ch.refl (fun b=>(some g:Option Nat)=some b) w2).setCell ⟨g,i*7+5,none⟩ v' (fun _=>rfl)).setCell ⟨g,i*7+6,none⟩ u' (fun _=>rfl)⟩
   · rw [List.set_comm _ _ (by omega)]
     exact ⟨row_put (row_put hg' _ _) _ _,((Ch.refl (fun b=>(some g:Option Nat)=some b) w2).setCell ⟨g,i*7+6,none⟩ u' (fun _=>rfl)).setCell ⟨g,i*7+5,none⟩ v' (fun _=>rfl)⟩
 have h3:=h2.turn (r':=Ms.rw (.slice (some ⟨g,0,none⟩) n cap) ((M++[{ l[i] with vv:=v',iv:=u' }])++l.drop (i+1))) hWW.2 (by
   unfold Rw.ok Ms.rw
   have:=hWW.1
   rw [e1] at this
   have hl2:((M++[{ l[i] with vv:=v',iv:=u' }])++l.drop (i+1)).length=n:=by simp;omega
   rw [hl2]
   exact this) (fun b hb=>.inl hb)
 refine ⟨h3.perm (List.Perm.cons _ ?_),hWW.2⟩
 simp only [List.map_append,List.map_cons,List.map_nil]
 exact perm_two _ _ _ _

def ClM (w:World) (b q:Nat) (l:List Vr) (m:List Nat) (w':World):Prop:=∃v' u' w1 w2,w1.ownsRow w.heap.size 64 4 v' l.length (l.flatMap Vr.c)∧Below w.heap.size w w1∧w2.ownsRow w1.heap.size 22 1 u' m.length (m.flatMap Un.c)∧Below w1.heap.size w1 w2∧(w'=(w2.setCell ⟨b,q+5,none⟩ v').setCell ⟨b,q+6,none⟩ u'∨w'=(w2.setCell ⟨b,q+6,none⟩ u').setCell ⟨b,q+5,none⟩ v')
theorem clMs_any {w : World} {b q : Nat} {v u : Value} {l : List Vr} {m : List Nat} (h0 : w.cell? ⟨b, q + 5, none⟩ = some v) (hf : w.frozen? ⟨b, q + 5, none⟩ = false) (hv : Rr 4 Vr.c w v l) (hn : l.length * 48 ≤ 211106232528000) (h1 : w.cell? ⟨b, q + 6, none⟩ = some u) (hg : w.frozen? ⟨b, q + 6, none⟩ = false) (hu : Rr 1 Un.c w u m) (hm : m.length * 8 ≤ 211106232528000) :
   Calls Tryz.prog 23 #[.pointer (some ⟨b,q,none⟩)] w fun e w'=>e=.returned (.tuple #[])∧ClM w b q l m w':=by
 have CA:Hid (∀W,Below w.heap.size w W→Calls Tryz.prog 14 #[v] W fun e w'=>∃v',e=.returned v'∧w'.ownsRow W.heap.size 64 4 v' l.length (l.flatMap Vr.c)∧Below W.heap.size W w'):=fun W hW=>freshVr_any (hv.up hW) hn
 have CB:Hid (∀W,Below w.heap.size w W→Calls Tryz.prog 24 #[u] W fun e w'=>∃v',e=.returned v'∧w'.ownsRow W.heap.size 22 1 v' m.length (m.flatMap Un.c)∧Below W.heap.size W w'):=fun W hW=>freshUn_any (hu.up hW) hm
 have hb:=World.block_lt_of_cell? w _ h0
 have HS:Hid (∀W,Below w.heap.size w W→W.cell? ⟨b,q+5,none⟩=some v∧W.cell? ⟨b,q+6,none⟩=some u∧W.frozen? ⟨b,q+5,none⟩=false∧W.frozen? ⟨b,q+6,none⟩=false):=fun W hW=>⟨(hW.cell (p:=⟨b,q+5,none⟩) hb).trans h0,(hW.cell (p:=⟨b,q+6,none⟩) hb).trans h1,(hW.frozen (p:=⟨b,q+5,none⟩) hb).trans hf,(hW.frozen (p:=⟨b,q+6,none⟩) hb).trans hg⟩
 have HE:Hid (∀v' u' w1 w2,w1.ownsRow w.drew.heap.size 64 4 v' l.length (l.flatMap Vr.c)→Below w.drew.heap.size w.drew w1→w2.ownsRow w1.heap.size 22 1 u' m.length (m.flatMap Un.c)→Below w1.heap.size w1 w2→∀W,(W=(w2.setCell ⟨b,q+5,none⟩ v').setCell ⟨b,q+6,none⟩ u'∨W=(w2.setCell ⟨b,q+6,none⟩ u').setCell ⟨b,q+5,none⟩ v')→ClM w b q l m W):=fun v' u' w1 w2 a1 a2 a3 a4 W hW=>⟨v',u',w1,w2,a1,⟨a2.os,a2.tape,a2.output,a2.size,a2.block⟩,a3,a4,hW⟩
 obtain ⟨a,cap,rfl,-⟩:=id hv
 obtain ⟨a',cap',rfl,-⟩:=id hu
 clear hv hu
 go_enter Tryz.func23,Tryz.ntmps23
 go_wp2
 refine Code.wp_mono (Q:=Exit.then (fun a' w'=>(∃tm,a'={ tmps:=tm,defers:=[] })∧ClM w b q l m w') (fun _ _ _=>False)) ?post ?reg
 case reg =>
   go_region_with (first
     | (go_at_call 14;refine (CA.out _ (by exact (Below.refl _ w).drew)).mono ?_;rintro e w1 ⟨v1,rfl,r1,b1⟩;obtain ⟨a1,c1,rfl,-⟩:=row_slice r1;obtain ⟨m5,m6,f5,f6⟩:=HS.out w1 ((Below.refl _ w).drew.trans (b1.mono nlr)))
     | (go_at_call 24;refine (CB.out _ (by exact (Below.refl _ w).drew.trans (b1.mono nlr))).mono ?_;rintro e w2 ⟨v2,rfl,r2,b2⟩;obtain ⟨a2,c2,rfl,-⟩:=row_slice r2;obtain ⟨n5,n6,g5,g6⟩:=HS.out w2 ((Below.refl _ w).drew.trans ((b1.mono nlr).trans (b2.mono b1.size)))))
   all_goals exact ⟨⟨_,rfl⟩,HE.out _ _ w1 w2 r1 b1 r2 b2 _ (by first | exact .inl rfl | exact .inr rfl)⟩
 case post =>
   intro e a' w' hq
   obtain ⟨rfl,⟨tm,rfl⟩,hz⟩:e=.normal∧(∃tm,a'={ tmps:=tm,defers:=[] })∧ClM w b q l m w':=by
     cases e <;> first | exact ⟨rfl,hq⟩ | exact hq.elim
   go_end0
   exact ⟨rfl,hz⟩

theorem withinMs_any {w : World} {v : Value} {l : List Ms} (h : Rr 7 Ms.c w v l) (hn : l.length * 112 ≤ 211106232528000) (hi : ∀ x ∈ l, Rr 4 Vr.c w x.vv x.vars) (hj : ∀ x ∈ l, Rr 1 Un.c w x.iv x.its) (hm : ∀ x ∈ l, x.vars.length * 48 ≤ 211106232528000) (hk : ∀ x ∈ l, x.its.length * 8 ≤ 211106232528000) :
   Calls Tryz.prog 22 #[v,.func (.func 23) #[] #[]] w fun e w'=>∃v' M,e=.returned v'∧M.map Ms.e=l.map Ms.e∧Own w.heap.size w' (Ms.rw v' M::(M.map Ms.r++M.map Ms.q))∧Below w.heap.size w w':=by
 have CF:=freshMs_any h (fun x hx=>(hi x hx).oneCell) (fun x hx=>(hj x hx).oneCell) hn
 have HI:Hid (∀x∈l,Rr 4 Vr.c w x.vv x.vars):=hi
 have HJ:Hid (∀x∈l,Rr 1 Un.c w x.iv x.its):=hj
 have hl:l.length≤4611686018427387904:=by omega
 obtain ⟨a,cap,rfl,-⟩:=h
 clear hi hj
 go_enter Tryz.func22,Tryz.ntmps22
 go_wp2_with (go_at_call 64;refine CF.mono ?_;rintro e w1 ⟨v1,rfl,r1,b1⟩;obtain ⟨a1,c1,hs1,-,hc1,-⟩:=row_slice r1;(have H1:Hid (Own w.heap.size w1 (Ms.rw v1 ([]++l.drop 0)::(([]:List Ms).map Ms.r++([]:List Ms).map Ms.q))∧Below w.heap.size w w1):=⟨⟨fun r hr=>by rw [List.mem_singleton.1 hr];exact r1,List.pairwise_singleton _ _⟩,b1⟩);clear b1 r1 CF;rw [hs1] at H1;rw [hs1];clear hs1 v1)
 go_loopw [10] (fun v10 wr=>∃i:Nat,v10=.int .i64 (i:Int)∧i≤l.length∧Hid (∃M:List Ms,M.length=i∧M.map Ms.e=(l.take i).map Ms.e∧Own w.heap.size wr (Ms.rw (.slice a1 l.length c1) (M++l.drop i)::(M.map Ms.r++M.map Ms.q))∧Below w.heap.size w wr)) (fun v10 _=>l.length-(intOf v10).toNat)
 case atStart=>exact ⟨0,rfl,Nat.zero_le _,[],rfl,rfl,H1.out⟩
 case round =>
   clear H1
   obtain ⟨i,rfl,hil,HM⟩:=hrel
   by_cases hlt:i<l.length
   · have hlt':(i:Int)<(l.length:Int):=by omega
     have hi0:(0:Int)≤(i:Int):=by omega
     obtain ⟨M,hM,hMe,hO,hB⟩:=HM.out
     have hrow:=hO.own _ (List.mem_cons_self ..)
     unfold Rw.ok Ms.rw at hrow
     have hlen:(M++l.drop i).length=l.length:=by rw [List.length_append,List.length_drop];omega
     simp only [hlen] at hrow
     obtain ⟨g,cap',hsl,-⟩:=row_any hrow (by omega)
     obtain ⟨rfl,rfl⟩:a1=some ⟨g,0,none⟩∧c1=cap':=by injection hsl with e1 _ e2;exact ⟨e1,e2⟩
     have hx:(M++l.drop i)[i]?=some l[i]:=by rw [List.getElem?_append_right (by omega),hM,Nat.sub_self,List.getElem?_drop,Nat.add_zero,List.getElem?_eq_getElem hlt]
     have m0:wr.cell? ⟨g,i*7+5,none⟩=some l[i].vv:=row_cell hrow (by rw [fm_get Ms.k _ i 5 (by omega),hx];rfl)
     have m1:wr.cell? ⟨g,i*7+6,none⟩=some l[i].iv:=row_cell hrow (by rw [fm_get Ms.k _ i 6 (by omega),hx];rfl)
     have f0:=row_fro hrow (i*7+5)
     have f1:=row_fro hrow (i*7+6)
     have CC:=clMs_any (b:=g) (q:=i*7) m0 f0 ((HI.out l[i] (List.getElem_mem hlt)).up hB) (hm l[i] (List.getElem_mem hlt)) m1 f1 ((HJ.out l[i] (List.getElem_mem hlt)).up hB) (hk l[i] (List.getElem_mem hlt))
     have HST:Hid (∀(w2:World),ClM wr g (i*7) l[i].vars l[i].its w2→∃M':List Ms,M'.length=i+1∧M'.map Ms.e=(l.take (i+1)).map Ms.e∧Own w.heap.size w2 (Ms.rw (.slice (some ⟨g,0,none⟩) l.length c1) (M'++l.drop (i+1))::(M'.map Ms.r++M'.map Ms.q))∧Below w.heap.size w w2):=by
       rintro W ⟨v',u',w1,w2,hr1,hb1,hr2,hb2,hW⟩
       obtain ⟨hT,hC⟩:=Ms.two hlt hM rfl hO hb1 hr1 hb2 hr2 hB.size W hW
       refine ⟨M++[{ l[i] with vv:=v',iv:=u' }],by simp [hM],?_,hT,?_⟩
       · rw [List.map_append,hMe,List.take_succ_eq_append_getElem hlt,List.map_append];rfl
       · have hg:=row_lt hrow
         exact (bel_of (bel_of hB hb1 nlr) hb2 nlr).trans (hC.below (by have:=hB.size;have:=hb1.size;have:=hb2.size;omega) (fun k hk e=>by cases e;omega))
     clear hO hB hrow hx m0 m1 f0 f1 hMe hM HM hlen
     generalize l[i]=x at *
     go_wp2_with (go_at_call 23;refine CC.mono ?_;rintro e w2 ⟨rfl,hq⟩;(have H3:Hid _:=HST.out w2 hq);clear CC HST hq)
     go_roundw
     case rel=>exact ⟨i+1,by simp,by omega,H3.out⟩
     case measure=>simp [intOf];omega
   · have hlt':¬(i:Int)<(l.length:Int):=by omega
     obtain rfl:i=l.length:=by omega
     have H4:Hid (∃M:List Ms,M.map Ms.e=l.map Ms.e∧Own w.heap.size wr (Ms.rw (.slice a1 l.length c1) M::(M.map Ms.r++M.map Ms.q))∧Below w.heap.size w wr):=by
       obtain ⟨M,-,h2,h3,h4⟩:=HM.out
       rw [List.take_length] at h2
       rw [List.drop_length,List.append_nil] at h3
       exact ⟨M,h2,h3,h4⟩
     clear HM
     go_wp2
     go_ret
     obtain ⟨M,h2,h3,h4⟩:=H4.out
     exact ⟨_,rfl,M,h2,h3,h4⟩
end Go.Proofs.YtmfempdcpoeicaaGreat.f13
