/-
  Package fold's freshWithin: elements that have lists of their own, in new memory with them.
-/
import Derived.Test.YtmfempdcpoeicaaGreatF13Fr
import Derived.Deep.RegionHeld3
import Derived.Deep.RegionWith
set_option maxHeartbeats 1000000
set_option maxRecDepth 100000
namespace Go.Proofs.YtmfempdcpoeicaaGreat.f13
open Go.RowKit Go.Shelf Go.Sort
open Go.Lib hiding intOf

theorem set_mid {α:Type} {M R:List α} {x y:α} {i:Nat} (hi:M.length=i):(M++x::R).set i y=(M++[y])++R:=by
 subst hi
 rw [List.set_append_right _ _ nlr,Nat.sub_self,List.set_cons_zero,List.append_assoc,List.singleton_append]
theorem row_any {w:World} {B n:Nat} {t:TypeId} {k:Nat} {v:Value} {cs:List Value} (h:w.ownsRow B t k v n cs) (hn:0<n):∃g cap,v=.slice (some ⟨g,0,none⟩) n cap∧n≤cap:=by
 rcases h.2 with ⟨-,h0⟩ | ⟨g,cap,cur,e,_,_,hnc,_⟩
 · omega
 · exact ⟨g,cap,e,hnc⟩
theorem ch_cell (w:World) (g i:Nat) (u:Value):Ch (fun b=>(some g:Option Nat)=some b) w (w.setCell ⟨g,i,none⟩ u):=(Ch.refl _ w).setCell ⟨g,i,none⟩ u (fun _=>rfl)

theorem clIn_any {w : World} {b q : Nat} {v : Value} {l : List Vr} (h0 : w.cell? ⟨b, q + 2, none⟩ = some v) (hf : w.frozen? ⟨b, q + 2, none⟩ = false) (hv : Rr 4 Vr.c w v l) (hn : l.length * 48 ≤ 211106232528000) :
   Calls Tryz.prog 13 #[.pointer (some ⟨b,q,none⟩)] w fun e w'=>e=.returned (.tuple #[])∧∃v' w1,w'=w1.setCell ⟨b,q+2,none⟩ v'∧w1.ownsRow w.heap.size 64 4 v' l.length (l.flatMap Vr.c)∧Below w.heap.size w w1:=by
 have CF:=freshVr_any hv hn
 have hb:=World.block_lt_of_cell? w _ h0
 obtain ⟨a,cap,rfl,-⟩:=id hv
 clear hv
 go_enter Tryz.func13,Tryz.ntmps13
 go_wp2_with (go_at_call 14;refine CF.mono ?_;rintro e w1 ⟨v1,rfl,r1,b1⟩;obtain ⟨a1,c1,rfl,-⟩:=row_slice r1;have m1:=(b1.cell (p:=⟨b,q+2,none⟩) hb).trans h0;have f1:=(b1.frozen (p:=⟨b,q+2,none⟩) hb).trans hf;(have H1:Hid (w1.ownsRow w.heap.size 64 4 (.slice a1 l.length c1) l.length (l.flatMap Vr.c)∧Below w.heap.size w w1):=⟨r1,b1⟩);clear b1 r1 CF h0 hf)
 go_end0
 exact ⟨rfl,_,w1,rfl,H1.out⟩
theorem In.step {B : Nat} {w w1 : World} {g cap i n : Nat} {M : List In} {l : List In} {v' : Value} (hi : i < l.length) (hM : M.length = i) (hn : l.length = n) (h : Own B w (In.rw (.slice (some ⟨g, 0, none⟩) n cap) (M ++ l.drop i) :: M.map In.r)) (hb : Below w.heap.size w w1) (hr : w1.ownsRow w.heap.size 64 4 v' l[i].vars.length (l[i].vars.flatMap Vr.c)) (hB : B ≤ w.heap.size) :
   Own B (w1.setCell ⟨g,i*3+2,none⟩ v') (In.rw (.slice (some ⟨g,0,none⟩) n cap) ((M++[{ l[i] with vv:=v' }])++l.drop (i+1))::(M++[{ l[i] with vv:=v' }]).map In.r):=by
 have hd:l.drop i=l[i]::l.drop (i+1):=(List.getElem_cons_drop (h:=hi)).symm
 have h1:=h.add (r:=In.r { l[i] with vv:=v' }) hb hr hB
 have h2:=h1.perm (List.Perm.swap _ _ _)
 have hl:(M++l.drop i).length=n:=by rw [List.length_append,List.length_drop];omega
 have hg:=h2.own _ (List.mem_cons_self ..)
 have e1:((M++l.drop i).flatMap In.c).set (i*3+2) v'=((M++[{ l[i] with vv:=v' }])++l.drop (i+1)).flatMap In.c:=by
   rw [fm_set In.k (M++l.drop i) i 2 (by omega) (by omega) { l[i] with vv:=v' } v' (by rw [List.getElem_append_right (by omega)];simp [hM,In.c])]
   rw [hd,set_mid hM]
 have hg':w1.ownsRow B 58 3 (.slice (some ⟨g,0,none⟩) n cap) n ((M++l.drop i).flatMap In.c):=by
   have:=hg
   unfold Rw.ok In.rw at this
   rw [hl] at this
   exact this
 have h3:=h2.turn (r':=In.rw (.slice (some ⟨g,0,none⟩) n cap) ((M++[{ l[i] with vv:=v' }])++l.drop (i+1))) (ch_cell w1 g (i*3+2) v') (by
   unfold Rw.ok In.rw
   have:=row_put hg' (i*3+2) v'
   rw [e1] at this
   have hl2:((M++[{ l[i] with vv:=v' }])++l.drop (i+1)).length=n:=by simp;omega
   rw [hl2]
   exact this) (fun b hb=>.inl hb)
 refine h3.perm (List.Perm.cons _ ?_)
 rw [List.map_append,List.map_cons,List.map_nil]
 exact (List.perm_append_singleton _ _).symm
theorem withinIn_any {w : World} {v : Value} {l : List In} (h : Rr 3 In.c w v l) (hn : l.length * 48 ≤ 211106232528000) (hi : ∀ x ∈ l, Rr 4 Vr.c w x.vv x.vars) (hm : ∀ x ∈ l, x.vars.length * 48 ≤ 211106232528000) :
   Calls Tryz.prog 12 #[v,.func (.func 13) #[] #[]] w fun e w'=>∃v' M,e=.returned v'∧M.map In.e=l.map In.e∧Own w.heap.size w' (In.rw v' M::M.map In.r)∧Below w.heap.size w w':=by
 have CF:=freshIn_any h (fun x hx=>(hi x hx).oneCell) hn
 have HI:Hid (∀x∈l,Rr 4 Vr.c w x.vv x.vars):=hi
 have hl:l.length≤4611686018427387904:=by omega
 obtain ⟨a,cap,rfl,-⟩:=h
 clear hi
 go_enter Tryz.func12,Tryz.ntmps12
 go_wp2_with (go_at_call 62;refine CF.mono ?_;rintro e w1 ⟨v1,rfl,r1,b1⟩;obtain ⟨a1,c1,hs1,-,hc1,-⟩:=row_slice r1;(have H1:Hid (Own w.heap.size w1 (In.rw v1 ([]++l.drop 0)::([]:List In).map In.r)∧Below w.heap.size w w1):=⟨⟨fun r hr=>by rw [List.mem_singleton.1 hr];exact r1,List.pairwise_singleton _ _⟩,b1⟩);clear b1 r1 CF;rw [hs1] at H1;rw [hs1];clear hs1 v1)
 go_loopw [10] (fun v10 wr=>∃i:Nat,v10=.int .i64 (i:Int)∧i≤l.length∧Hid (∃M:List In,M.length=i∧M.map In.e=(l.take i).map In.e∧Own w.heap.size wr (In.rw (.slice a1 l.length c1) (M++l.drop i)::M.map In.r)∧Below w.heap.size w wr)) (fun v10 _=>l.length-(intOf v10).toNat)
 case atStart=>exact ⟨0,rfl,Nat.zero_le _,[],rfl,rfl,H1.out⟩
 case round =>
   clear H1
   obtain ⟨i,rfl,hil,HM⟩:=hrel
   by_cases hlt:i<l.length
   · have hlt':(i:Int)<(l.length:Int):=by omega
     have hi0:(0:Int)≤(i:Int):=by omega
     obtain ⟨M,hM,hMe,hO,hB⟩:=HM.out
     have hrow:=hO.own _ (List.mem_cons_self ..)
     unfold Rw.ok In.rw at hrow
     have hlen:(M++l.drop i).length=l.length:=by rw [List.length_append,List.length_drop];omega
     simp only [hlen] at hrow
     obtain ⟨g,cap',hsl,-⟩:=row_any hrow (by omega)
     obtain ⟨rfl,rfl⟩:a1=some ⟨g,0,none⟩∧c1=cap':=by injection hsl with e1 _ e2;exact ⟨e1,e2⟩
     have hx:(M++l.drop i)[i]?=some l[i]:=by rw [List.getElem?_append_right (by omega),hM,Nat.sub_self,List.getElem?_drop,Nat.add_zero,List.getElem?_eq_getElem hlt]
     have m0:wr.cell? ⟨g,i*3+2,none⟩=some l[i].vv:=row_cell hrow (by rw [fm_get In.k _ i 2 (by omega),hx];rfl)
     have f0:=row_fro hrow (i*3+2)
     have CC:=clIn_any (b:=g) (q:=i*3) m0 f0 ((HI.out l[i] (List.getElem_mem hlt)).up hB) (hm l[i] (List.getElem_mem hlt))
     have HST:Hid (∀(v':Value) (w1:World),w1.ownsRow wr.heap.size 64 4 v' l[i].vars.length (l[i].vars.flatMap Vr.c)→Below wr.heap.size wr w1→∃M':List In,M'.length=i+1∧M'.map In.e=(l.take (i+1)).map In.e∧Own w.heap.size (w1.setCell ⟨g,i*3+2,none⟩ v') (In.rw (.slice (some ⟨g,0,none⟩) l.length c1) (M'++l.drop (i+1))::M'.map In.r)∧Below w.heap.size w (w1.setCell ⟨g,i*3+2,none⟩ v')):=by
       intro v' w1 hr1 hb1
       refine ⟨M++[{ l[i] with vv:=v' }],by simp [hM],?_,In.step hlt hM rfl hO hb1 hr1 hB.size,?_⟩
       · rw [List.map_append,hMe,List.take_succ_eq_append_getElem hlt,List.map_append];rfl
       · have hg:=row_lt hrow
         exact (bel_of hB hb1 nlr).trans ((Ch.refl (fun b=>b=g) w1).setCell ⟨g,i*3+2,none⟩ v' (fun _=>rfl) |>.below (by have:=hB.size;have:=hb1.size;omega) (fun k hk e=>by omega))
     clear hO hB hrow hx m0 f0 hMe hM HM hlen
     generalize l[i]=x at *
     go_wp2_with (go_at_call 13;refine CC.mono ?_;rintro e w2 ⟨rfl,v',w3,rfl,hr3,hb3⟩;(have H3:Hid _:=HST.out v' w3 hr3 hb3);clear CC HST hr3 hb3)
     go_roundw
     case rel=>exact ⟨i+1,by simp,by omega,H3.out⟩
     case measure=>simp [intOf];omega
   · have hlt':¬(i:Int)<(l.length:Int):=by omega
     obtain rfl:i=l.length:=by omega
     have H4:Hid (∃M:List In,M.map In.e=l.map In.e∧Own w.heap.size wr (In.rw (.slice a1 l.length c1) M::M.map In.r)∧Below w.heap.size w wr):=by
       obtain ⟨M,-,h2,h3,h4⟩:=HM.out
       rw [List.take_length] at h2
       rw [List.drop_length,List.append_nil] at h3
       exact ⟨M,h2,h3,h4⟩
     clear HM
     go_wp2
     go_ret
     obtain ⟨M,h2,h3,h4⟩:=H4.out
     exact ⟨_,rfl,M,h2,h3,h4⟩

theorem clLs_any {w : World} {b q : Nat} {v : Value} {l : List Vr} (h0 : w.cell? ⟨b, q + 6, none⟩ = some v) (hf : w.frozen? ⟨b, q + 6, none⟩ = false) (hv : Rr 4 Vr.c w v l) (hn : l.length * 48 ≤ 211106232528000) :
   Calls Tryz.prog 21 #[.pointer (some ⟨b,q,none⟩)] w fun e w'=>e=.returned (.tuple #[])∧∃v' w1,w'=w1.setCell ⟨b,q+6,none⟩ v'∧w1.ownsRow w.heap.size 64 4 v' l.length (l.flatMap Vr.c)∧Below w.heap.size w w1:=by
 have CF:=freshVr_any hv hn
 have hb:=World.block_lt_of_cell? w _ h0
 obtain ⟨a,cap,rfl,-⟩:=id hv
 clear hv
 go_enter Tryz.func21,Tryz.ntmps21
 go_wp2_with (go_at_call 14;refine CF.mono ?_;rintro e w1 ⟨v1,rfl,r1,b1⟩;obtain ⟨a1,c1,rfl,-⟩:=row_slice r1;have m1:=(b1.cell (p:=⟨b,q+6,none⟩) hb).trans h0;have f1:=(b1.frozen (p:=⟨b,q+6,none⟩) hb).trans hf;(have H1:Hid (w1.ownsRow w.heap.size 64 4 (.slice a1 l.length c1) l.length (l.flatMap Vr.c)∧Below w.heap.size w w1):=⟨r1,b1⟩);clear b1 r1 CF h0 hf)
 go_end0
 exact ⟨rfl,_,w1,rfl,H1.out⟩
theorem Ls.step {B : Nat} {w w1 : World} {g cap i n : Nat} {M : List Ls} {l : List Ls} {v' : Value} (hi : i < l.length) (hM : M.length = i) (hn : l.length = n) (h : Own B w (Ls.rw (.slice (some ⟨g, 0, none⟩) n cap) (M ++ l.drop i) :: M.map Ls.r)) (hb : Below w.heap.size w w1) (hr : w1.ownsRow w.heap.size 64 4 v' l[i].vars.length (l[i].vars.flatMap Vr.c)) (hB : B ≤ w.heap.size) :
   Own B (w1.setCell ⟨g,i*7+6,none⟩ v') (Ls.rw (.slice (some ⟨g,0,none⟩) n cap) ((M++[{ l[i] with vv:=v' }])++l.drop (i+1))::(M++[{ l[i] with vv:=v' }]).map Ls.r):=by
 have hd:l.drop i=l[i]::l.drop (i+1):=(List.getElem_cons_drop (h:=hi)).symm
 have h1:=h.add (r:=Ls.r { l[i] with vv:=v' }) hb hr hB
 have h2:=h1.perm (List.Perm.swap _ _ _)
 have hl:(M++l.drop i).length=n:=by rw [List.length_append,List.length_drop];omega
 have hg:=h2.own _ (List.mem_cons_self ..)
 have e1:((M++l.drop i).flatMap Ls.c).set (i*7+6) v'=((M++[{ l[i] with vv:=v' }])++l.drop (i+1)).flatMap Ls.c:=by
   rw [fm_set Ls.k (M++l.drop i) i 6 (by omega) (by omega) { l[i] with vv:=v' } v' (by rw [List.getElem_append_right (by omega)];simp [hM,Ls.c])]
   rw [hd,set_mid hM]
 have hg':w1.ownsRow B 81 7 (.slice (some ⟨g,0,none⟩) n cap) n ((M++l.drop i).flatMap Ls.c):=by
   have:=hg
   unfold Rw.ok Ls.rw at this
   rw [hl] at this
   exact this
 have h3:=h2.turn (r':=Ls.rw (.slice (some ⟨g,0,none⟩) n cap) ((M++[{ l[i] with vv:=v' }])++l.drop (i+1))) (ch_cell w1 g (i*7+6) v') (by
   unfold Rw.ok Ls.rw
   have:=row_put hg' (i*7+6) v'
   rw [e1] at this
   have hl2:((M++[{ l[i] with vv:=v' }])++l.drop (i+1)).length=n:=by simp;omega
   rw [hl2]
   exact this) (fun b hb=>.inl hb)
 refine h3.perm (List.Perm.cons _ ?_)
 rw [List.map_append,List.map_cons,List.map_nil]
 exact (List.perm_append_singleton _ _).symm
theorem withinLs_any {w : World} {v : Value} {l : List Ls} (h : Rr 7 Ls.c w v l) (hn : l.length * 88 ≤ 211106232528000) (hi : ∀ x ∈ l, Rr 4 Vr.c w x.vv x.vars) (hm : ∀ x ∈ l, x.vars.length * 48 ≤ 211106232528000) :
   Calls Tryz.prog 20 #[v,.func (.func 21) #[] #[]] w fun e w'=>∃v' M,e=.returned v'∧M.map Ls.e=l.map Ls.e∧Own w.heap.size w' (Ls.rw v' M::M.map Ls.r)∧Below w.heap.size w w':=by
 have CF:=freshLs_any h (fun x hx=>(hi x hx).oneCell) hn
 have HI:Hid (∀x∈l,Rr 4 Vr.c w x.vv x.vars):=hi
 have hl:l.length≤4611686018427387904:=by omega
 obtain ⟨a,cap,rfl,-⟩:=h
 clear hi
 go_enter Tryz.func20,Tryz.ntmps20
 go_wp2_with (go_at_call 63;refine CF.mono ?_;rintro e w1 ⟨v1,rfl,r1,b1⟩;obtain ⟨a1,c1,hs1,-,hc1,-⟩:=row_slice r1;(have H1:Hid (Own w.heap.size w1 (Ls.rw v1 ([]++l.drop 0)::([]:List Ls).map Ls.r)∧Below w.heap.size w w1):=⟨⟨fun r hr=>by rw [List.mem_singleton.1 hr];exact r1,List.pairwise_singleton _ _⟩,b1⟩);clear b1 r1 CF;rw [hs1] at H1;rw [hs1];clear hs1 v1)
 go_loopw [10] (fun v10 wr=>∃i:Nat,v10=.int .i64 (i:Int)∧i≤l.length∧Hid (∃M:List Ls,M.length=i∧M.map Ls.e=(l.take i).map Ls.e∧Own w.heap.size wr (Ls.rw (.slice a1 l.length c1) (M++l.drop i)::M.map Ls.r)∧Below w.heap.size w wr)) (fun v10 _=>l.length-(intOf v10).toNat)
 case atStart=>exact ⟨0,rfl,Nat.zero_le _,[],rfl,rfl,H1.out⟩
 case round =>
   clear H1
   obtain ⟨i,rfl,hil,HM⟩:=hrel
   by_cases hlt:i<l.length
   · have hlt':(i:Int)<(l.length:Int):=by omega
     have hi0:(0:Int)≤(i:Int):=by omega
     obtain ⟨M,hM,hMe,hO,hB⟩:=HM.out
     have hrow:=hO.own _ (List.mem_cons_self ..)
     unfold Rw.ok Ls.rw at hrow
     have hlen:(M++l.drop i).length=l.length:=by rw [List.length_append,List.length_drop];omega
     simp only [hlen] at hrow
     obtain ⟨g,cap',hsl,-⟩:=row_any hrow (by omega)
     obtain ⟨rfl,rfl⟩:a1=some ⟨g,0,none⟩∧c1=cap':=by injection hsl with e1 _ e2;exact ⟨e1,e2⟩
     have hx:(M++l.drop i)[i]?=some l[i]:=by rw [List.getElem?_append_right (by omega),hM,Nat.sub_self,List.getElem?_drop,Nat.add_zero,List.getElem?_eq_getElem hlt]
     have m0:wr.cell? ⟨g,i*7+6,none⟩=some l[i].vv:=row_cell hrow (by rw [fm_get Ls.k _ i 6 (by omega),hx];rfl)
     have f0:=row_fro hrow (i*7+6)
     have CC:=clLs_any (b:=g) (q:=i*7) m0 f0 ((HI.out l[i] (List.getElem_mem hlt)).up hB) (hm l[i] (List.getElem_mem hlt))
     have HST:Hid (∀(v':Value) (w1:World),w1.ownsRow wr.heap.size 64 4 v' l[i].vars.length (l[i].vars.flatMap Vr.c)→Below wr.heap.size wr w1→∃M':List Ls,M'.length=i+1∧M'.map Ls.e=(l.take (i+1)).map Ls.e∧Own w.heap.size (w1.setCell ⟨g,i*7+6,none⟩ v') (Ls.rw (.slice (some ⟨g,0,none⟩) l.length c1) (M'++l.drop (i+1))::M'.map Ls.r)∧Below w.heap.size w (w1.setCell ⟨g,i*7+6,none⟩ v')):=by
       intro v' w1 hr1 hb1
       refine ⟨M++[{ l[i] with vv:=v' }],by simp [hM],?_,Ls.step hlt hM rfl hO hb1 hr1 hB.size,?_⟩
       · rw [List.map_append,hMe,List.take_succ_eq_append_getElem hlt,List.map_append];rfl
       · have hg:=row_lt hrow
         exact (bel_of hB hb1 nlr).trans ((Ch.refl (fun b=>b=g) w1).setCell ⟨g,i*7+6,none⟩ v' (fun _=>rfl) |>.below (by have:=hB.size;have:=hb1.size;omega) (fun k hk e=>by omega))
     clear hO hB hrow hx m0 f0 hMe hM HM hlen
     generalize l[i]=x at *
     go_wp2_with (go_at_call 21;refine CC.mono ?_;rintro e w2 ⟨rfl,v',w3,rfl,hr3,hb3⟩;(have H3:Hid _:=HST.out v' w3 hr3 hb3);clear CC HST hr3 hb3)
     go_roundw
     case rel=>exact ⟨i+1,by simp,by omega,H3.out⟩
     case measure=>simp [intOf];omega
   · have hlt':¬(i:Int)<(l.length:Int):=by omega
     obtain rfl:i=l.length:=by omega
     have H4:Hid (∃M:List Ls,M.map Ls.e=l.map Ls.e∧Own w.heap.size wr (Ls.rw (.slice a1 l.length c1) M::M.map Ls.r)∧Below w.heap.size w wr):=by
       obtain ⟨M,-,h2,h3,h4⟩:=HM.out
       rw [List.take_length] at h2
       rw [List.drop_length,List.append_nil] at h3
       exact ⟨M,h2,h3,h4⟩
     clear HM
     go_wp2
     go_ret
     obtain ⟨M,h2,h3,h4⟩:=H4.out
     exact ⟨_,rfl,M,h2,h3,h4⟩
end Go.Proofs.YtmfempdcpoeicaaGreat.f13
