/-
  Processes that are put.
-/
import Derived.Test.YtmfempdcpoeicaaGreatF13Put
import Derived.Test.YtmfempdcpoeicaaGreatF13In5
import Derived.Test.YtmfempdcpoeicaaGreatF13Wno
set_option maxHeartbeats 8000000
set_option maxRecDepth 100000
namespace Go.Proofs.YtmfempdcpoeicaaGreat.f13
open Go.RowKit Go.Shelf Go.Sort
open Go.Lib hiding intOf

def ltT (a b:List UInt8):Bool:=lt (S a) (S b)
theorem lessT_any (a b:List UInt8) (w:World):Calls Tryz.prog 71 #[.string (S a),.string (S b)] w fun e w'=>e=.returned (.bool (ltT a b))∧w'=w:=by
 go_enter Tryz.func71,Tryz.ntmps71
 go_wp2
 go_ret
 exact ⟨by simp [ltT,lt],rfl⟩

theorem putDe1_any (x : De) (m : List UInt8) {w : World} {lb mb kb : Nat} (hl : w.cell? ⟨lb, 0, none⟩ = some (.func (.func 71) #[] #[])) (hm : w.cell? ⟨mb, 0, none⟩ = some (kT m)) (hk : w.cell? ⟨kb, 0, none⟩ = some (.func (.func 70) #[] #[])) :
   Calls Tryz.prog 124 #[.agg (De.c x).toArray,.pointer (some ⟨lb,0,none⟩),.pointer (some ⟨mb,0,none⟩),.pointer (some ⟨kb,0,none⟩)] w fun e w'=>e=.returned (.bool (ltT m x.kk))∧Below w.heap.size w w':=by
 have CK:=fun W=>keyDe_any x W
 have CL:=fun W=>lessT_any m x.kk W
 have hll:=World.block_lt_of_cell? w _ hl
 have hml:=World.block_lt_of_cell? w _ hm
 have hkl:=World.block_lt_of_cell? w _ hk
 obtain ⟨x0,x1⟩:=x
 simp only [De.c,De.kk,kT] at CK CL hm ⊢
 have hb0:Below w.heap.size w (w.alloc (.cells #[.string (S x0),.string (S x1)] 55)):=(Below.refl _ w).alloc nlr _
 have HS:Hid (∀W,Below (w.alloc (.cells #[.string (S x0),.string (S x1)] 55)).heap.size (w.alloc (.cells #[.string (S x0),.string (S x1)] 55)) W→W.cell? ⟨lb,0,none⟩=some (.func (.func 71) #[] #[])∧W.cell? ⟨mb,0,none⟩=some (.string (S m))∧W.cell? ⟨kb,0,none⟩=some (.func (.func 70) #[] #[])∧W.cell? ⟨w.heap.size,0,none⟩=some (.string (S x0))∧W.cell? ⟨w.heap.size,1,none⟩=some (.string (S x1))):=by
   intro W hW
   have hsz:w.heap.size<(w.alloc (.cells #[.string (S x0),.string (S x1)] 55)).heap.size:=by simp
   exact ⟨(hW.cell (p:=⟨lb,0,none⟩) (by simp at hll ⊢;omega)).trans ((hb0.cell (p:=⟨lb,0,none⟩) hll).trans hl),(hW.cell (p:=⟨mb,0,none⟩) (by simp at hml ⊢;omega)).trans ((hb0.cell (p:=⟨mb,0,none⟩) hml).trans hm),(hW.cell (p:=⟨kb,0,none⟩) (by simp at hkl ⊢;omega)).trans ((hb0.cell (p:=⟨kb,0,none⟩) hkl).trans hk),(hW.cell (p:=⟨w.heap.size,0,none⟩) hsz).trans (World.cell?_alloc_new _ _ _ _),(hW.cell (p:=⟨w.heap.size,1,none⟩) hsz).trans (World.cell?_alloc_new _ _ _ _)⟩
 have B1:Hid (Below w.heap.size w (w.alloc (.cells #[.string (S x0),.string (S x1)] 55))):=hb0
 clear hb0 hk hm hl hkl hml hll
 go_enter Tryz.func124,Tryz.ntmps124
 go_wp2
 generalize (w.alloc (.cells #[.string (S x0),.string (S x1)] 55))=W1 at *
 obtain ⟨c0,c1,c2,c3,c4⟩:=HS.out _ brf
 go_region_held3 (fun W=>W.cell? ⟨lb,0,none⟩=some (.func (.func 71) #[] #[])∧W.cell? ⟨mb,0,none⟩=some (.string (S m))∧W.cell? ⟨kb,0,none⟩=some (.func (.func 70) #[] #[])∧W.cell? ⟨w.heap.size,0,none⟩=some (.string (S x0))∧W.cell? ⟨w.heap.size,1,none⟩=some (.string (S x1)))
   (first | go_keep | exact HS.out _ brf | exact HS.out _ brf.drew | exact HS.out _ hX)
   (first
     | (go_at_call 70;refine (CK _).mono ?_;rintro e u1 ⟨rfl,hX0⟩;(have hX:Below W1.heap.size W1 u1:=(Below.refl _ W1).drew.trans (hX0.mono nlr));(have B2:Hid (Below w.heap.size w u1):=bel_of B1.out hX nlr);clear hX0)
     | (go_at_call 71;refine (CL _).mono ?_;rintro e u2 ⟨rfl,hu2⟩;rw [hu2];clear hu2))
 all_goals
   go_wp2
   go_ret
   exact ⟨by simp,B2.out⟩

def PtDe (B:Nat) (w:World) (v:Value) (l:List De) (e:Ending) (w':World):Prop:=∃v',e=.returned v'∧w'.ownsRow B 55 2 v' l.length (l.flatMap De.c)∧Ch (fun g=>v.ownBlock=some g) w w'∧∀g,v'.ownBlock=some g→v.ownBlock=some g∨w.heap.size≤g
theorem putDe_any {B : Nat} {w : World} {v : Value} {l : List De} (x : De) (h : w.ownsRow B 55 2 v l.length (l.flatMap De.c)) (hB : B ≤ w.heap.size) (hbig : (l.length + 1) * 32 ≤ 211106232528000) :
   Calls Tryz.prog 69 #[v,.agg (De.c x).toArray,(.func (.func 70) #[] #[]),(.func (.func 71) #[] #[])] w (PtDe B w v (putL De.kk ltT l x)):=by
 have hn:l.length≤4611686018427387904:=by omega
 obtain ⟨a0,c0,hs,-,hnc,hc63⟩:=row_slice h
 subst hs
 have CK:=fun W=>keyDe_any x W
 have CO:=fun W=>ofDe_any x.kk W
 have HP1:=fun (y:De) (W:World) (lb mb kb:Nat) (a1:W.cell? ⟨lb,0,none⟩=some (.func (.func 71) #[] #[])) (a2:W.cell? ⟨mb,0,none⟩=some (kT x.kk)) (a3:W.cell? ⟨kb,0,none⟩=some (.func (.func 70) #[] #[]))=>putDe1_any y x.kk a1 a2 a3
 have HR:Hid (w.ownsRow B 55 2 (.slice a0 l.length c0) l.length (l.flatMap De.c)):=h
 have HX:Hid (x=x):=rfl
 obtain ⟨x0,x1⟩:=x
 simp only [De.c,De.kk,kT] at CK CO HP1 ⊢
 have HS:Hid (∀W,Below (((w.alloc (.cells #[.string (S x0),.string (S x1)] 55)).alloc (.cells #[(.func (.func 70) #[] #[])] 114)).alloc (.cells #[(.func (.func 71) #[] #[])] 115)).heap.size (((w.alloc (.cells #[.string (S x0),.string (S x1)] 55)).alloc (.cells #[(.func (.func 70) #[] #[])] 114)).alloc (.cells #[(.func (.func 71) #[] #[])] 115)) W→W.cell? ⟨w.heap.size,0,none⟩=some (.string (S x0))∧W.cell? ⟨w.heap.size,1,none⟩=some (.string (S x1))∧W.cell? ⟨w.heap.size+1,0,none⟩=some (.func (.func 70) #[] #[])∧W.cell? ⟨w.heap.size+1+1,0,none⟩=some (.func (.func 71) #[] #[])):=by
   intro W hW
   have e9:(((w.alloc (.cells #[.string (S x0),.string (S x1)] 55)).alloc (.cells #[(.func (.func 70) #[] #[])] 114)).alloc (.cells #[(.func (.func 71) #[] #[])] 115)).heap.size=w.heap.size+3:=by simp
   rw [e9] at hW
   refine ⟨?_,?_,?_,?_⟩
   · exact (hW.cell (p:=⟨w.heap.size,0,none⟩) (by simp only;omega)).trans (by go_simp)
   · exact (hW.cell (p:=⟨w.heap.size,1,none⟩) (by simp only;omega)).trans (by go_simp)
   · exact (hW.cell (p:=⟨w.heap.size+1,0,none⟩) (by simp only;omega)).trans (by go_simp)
   · exact (hW.cell (p:=⟨w.heap.size+1+1,0,none⟩) (by simp only;omega)).trans (by go_simp)
 have B0:Hid (Below w.heap.size w (((w.alloc (.cells #[.string (S x0),.string (S x1)] 55)).alloc (.cells #[(.func (.func 70) #[] #[])] 114)).alloc (.cells #[(.func (.func 71) #[] #[])] 115))):=(((Below.refl _ w).alloc nlr _).alloc (by simp) _).alloc (by simp;omega) _
 have putm:∀{w1:World} (HS:∀W,Below (((w.alloc (.cells #[.string (S x0),.string (S x1)] 55)).alloc (.cells #[(.func (.func 70) #[] #[])] 114)).alloc (.cells #[(.func (.func 71) #[] #[])] 115)).heap.size (((w.alloc (.cells #[.string (S x0),.string (S x1)] 55)).alloc (.cells #[(.func (.func 70) #[] #[])] 114)).alloc (.cells #[(.func (.func 71) #[] #[])] 115)) W→W.cell? ⟨w.heap.size,0,none⟩=some (.string (S x0))∧W.cell? ⟨w.heap.size,1,none⟩=some (.string (S x1))∧W.cell? ⟨w.heap.size+1,0,none⟩=some (.func (.func 70) #[] #[])∧W.cell? ⟨w.heap.size+1+1,0,none⟩=some (.func (.func 71) #[] #[])),Below (((w.alloc (.cells #[.string (S x0),.string (S x1)] 55)).alloc (.cells #[(.func (.func 70) #[] #[])] 114)).alloc (.cells #[(.func (.func 71) #[] #[])] 115)).heap.size (((w.alloc (.cells #[.string (S x0),.string (S x1)] 55)).alloc (.cells #[(.func (.func 70) #[] #[])] 114)).alloc (.cells #[(.func (.func 71) #[] #[])] 115)) w1→∀W,Below (w1.alloc (.cells #[.string (S x0)] 9)).heap.size (w1.alloc (.cells #[.string (S x0)] 9)) W→(W.cell? ⟨w.heap.size,0,none⟩=some (.string (S x0))∧W.cell? ⟨w.heap.size,1,none⟩=some (.string (S x1))∧W.cell? ⟨w.heap.size+1,0,none⟩=some (.func (.func 70) #[] #[])∧W.cell? ⟨w.heap.size+1+1,0,none⟩=some (.func (.func 71) #[] #[])∧W.cell? ⟨w1.heap.size,0,none⟩=some (.string (S x0)))∧Below w.heap.size w W:=by
   intro w1 HS b1 W hW
   have b2:Below w1.heap.size w1 (w1.alloc (.cells #[.string (S x0)] 9)):=(Ch.below ((Ch.refl (fun b=>b=w1.heap.size) w1).alloc _) nlr (fun b hb e=>by omega))
   have b3:=bel_of b2 hW nlr
   have b4:=bel_of b1 b3 nlr
   have e1:(w1.alloc (.cells #[.string (S x0)] 9)).cell? ⟨w1.heap.size,0,none⟩=some (.string (S x0)):=by go_simp
   obtain ⟨q0,q1,q2,q3⟩:=HS W b4
   exact ⟨⟨q0,q1,q2,q3,(hW.cell (p:=⟨w1.heap.size,0,none⟩) (by simp)).trans e1⟩,bel_of B0.out b4 nlr⟩
 clear h HX
 cases hF:l.findIdx? (fun y=>y.kk==x0) with
 | some i =>
   have e1:fix (fun y=>y.kk==x0) l=(i:Int):=by unfold fix;rw [hF]
   have hi:=(List.findIdx?_eq_some_iff_getElem.1 hF).1
   have HE:Hid (putL De.kk ltT l ⟨x0,x1⟩=l.set i ⟨x0,x1⟩):=by show _=_;unfold putL;simp only [De.kk] at hF ⊢;rw [hF]
   obtain ⟨g,cap,hsl,hcap⟩:=row_any HR.out (by omega)
   obtain ⟨rfl,rfl⟩:a0=some ⟨g,0,none⟩∧c0=cap:=by injection hsl with e1 _ e2;exact ⟨e1,e2⟩
   have HN:Hid (∀W,Below w.heap.size w W→PtDe B w (.slice (some ⟨g,0,none⟩) l.length c0) (l.set i ⟨x0,x1⟩) (.returned (.slice (some ⟨g,0,none⟩) l.length c0)) (W.setCells g (i*2) (De.c ⟨x0,x1⟩))∧(∃u,W.cell? ⟨g,i*2+0,none⟩=some u)∧W.frozen? ⟨g,i*2+0,none⟩=false∧(∃u,W.cell? ⟨g,i*2+1,none⟩=some u)∧W.frozen? ⟨g,i*2+1,none⟩=false):=by
     intro W hW
     have r1:=(Ch.of_below (X:=fun _=>False) hW).row HR.out (fun _ _ e=>e)
     have cc:∀n,n<2→∃u,W.cell? ⟨g,i*2+n,none⟩=some u:=fun n hn=>by
       refine ⟨(De.c l[i])[n]'(by rw [De.k];exact hn),row_cell r1 ?_⟩
       rw [fm_get De.k _ i n hn,List.getElem?_eq_getElem hi]
       exact List.getElem?_eq_getElem _
     refine ⟨⟨_,rfl,?_,ch_setCells (Ch.of_below hW) g _ _ (fun _=>rfl),fun b hb=>.inl hb⟩,cc 0 (by omega),row_fro r1 _,cc 1 (by omega),row_fro r1 _⟩
     rw [List.length_set]
     exact row_elem De.k r1 i hi _
   rw [HE.out]
   have hi0:(0:Int)≤(i:Int):=by omega
   have hil:(i:Int)<(l.length:Int):=by omega
   clear hF HP1
   go_enter Tryz.func69,Tryz.ntmps69
   go_wp2_with (first
     | (go_at_call 70;refine (CK _).mono ?_;rintro e w1 ⟨rfl,b1⟩;(have HM:Hid (∀W,Below (w1.alloc (.cells #[.string (S x0)] 9)).heap.size (w1.alloc (.cells #[.string (S x0)] 9)) W→(W.cell? ⟨w.heap.size,0,none⟩=some (.string (S x0))∧W.cell? ⟨w.heap.size,1,none⟩=some (.string (S x1))∧W.cell? ⟨w.heap.size+1,0,none⟩=some (.func (.func 70) #[] #[])∧W.cell? ⟨w.heap.size+1+1,0,none⟩=some (.func (.func 71) #[] #[])∧W.cell? ⟨w1.heap.size,0,none⟩=some (.string (S x0)))∧Below w.heap.size w W):=putm (HS:=HS.out) b1);obtain ⟨q0,q1,q2,q3⟩:=HS.out w1 b1;(have hz1:w.heap.size+3≤w1.heap.size:=by (have:=b1.size;simp at this;omega));(have n0:w.heap.size<w1.heap.size:=by omega);(have n1:w.heap.size+1<w1.heap.size:=by omega);(have n2:w.heap.size+1+1<w1.heap.size:=by omega);clear b1 CK)
     | (go_at_call 123;refine (CO _).mono ?_;rintro e w2 ⟨caps,rfl,hsay,b2⟩;obtain ⟨⟨r0,r1,r2,r3,r4⟩,hB2⟩:=HM.out w2 b2;(have CI:=indexDe_any (X:=fun _=>False) (fun y=>y.kk==x0) ((Rr.row De.k HR.out).up hB2) hn (enters_of Tryz.func172 (by kernel_rfl) rfl) (fun y hy=>hsay (fun _=>False) (fun _ e=>e.elim) y));(have B2:Hid (Below w.heap.size w w2):=hB2);(have BM:Hid (Below (w1.alloc (.cells #[.string (S x0)] 9)).heap.size (w1.alloc (.cells #[.string (S x0)] 9)) w2):=b2);rw [e1] at CI;clear hsay b2 CO hB2 q0 q1 q2 q3)
     | (go_at_call 122;refine CI.mono ?_;rintro e w3 ⟨rfl,b3⟩;(have B3:Hid (Below w.heap.size w w3):=bel_of B2.out b3 nlr);obtain ⟨⟨t0,t1,t2,t3,t4⟩,-⟩:=HM.out w3 (bel_of BM.out b3 nlr);obtain ⟨hpt,⟨u0,p0⟩,f0,⟨u1,p1⟩,f1⟩:=HN.out w3 B3.out;(have HPt:Hid _:=hpt);clear hpt HN;simp only [Nat.add_zero] at p0 f0;clear b3 CI r0 r1 r2 r3 r4))
   go_ret
   exact HPt.out
 | none =>
   have e1:fix (fun y=>y.kk==x0) l = -1:=by unfold fix;rw [hF]
   have hne:¬(0:Int)≤-1:=by omega
   have CI2:∀W,Below w.heap.size w W→∀lb mb kb,W.cell? ⟨lb,0,none⟩=some (.func (.func 71) #[] #[])→W.cell? ⟨mb,0,none⟩=some (.string (S x0))→W.cell? ⟨kb,0,none⟩=some (.func (.func 70) #[] #[])→Calls Tryz.prog 122 #[.slice a0 l.length c0,.func (.func 124) #[] #[.pointer (some ⟨lb,0,none⟩),.pointer (some ⟨mb,0,none⟩),.pointer (some ⟨kb,0,none⟩)]] W fun e w'=>e=.returned (.int .i64 (fix (fun y=>ltT x0 y.kk) l))∧Below W.heap.size W w':=fun W hW lb mb kb d1 d2 d3 =>
     indexDe_any (X:=fun _=>False) (fun y=>ltT x0 y.kk) ((Rr.row De.k HR.out).up hW) hn (enters_of Tryz.func124 (by kernel_rfl) rfl) (fun y hy W' hW'=>HP1 y W' lb mb kb (hW'.cell d1 (fun e=>e)) (hW'.cell d2 (fun e=>e)) (hW'.cell d3 (fun e=>e)))
   cases hG:l.findIdx? (fun y=>ltT x0 y.kk) with
   | some i =>
     have e2:fix (fun y=>ltT x0 y.kk) l=(i:Int):=by unfold fix;rw [hG]
     rw [e2] at CI2
     have hi:=(List.findIdx?_eq_some_iff_getElem.1 hG).1
     have HE:Hid (putL De.kk ltT l ⟨x0,x1⟩=l.take i++⟨x0,x1⟩::l.drop i):=by show _=_;unfold putL;simp only [De.kk] at hF hG ⊢;rw [hF,hG]
     rw [HE.out]
     have HI:Hid (∀W,Below w.heap.size w W→Calls Tryz.prog 125 #[.slice a0 l.length c0,.int .i64 (i:Int),.slice (some ⟨W.heap.size,0,none⟩) 1 1] (W.alloc (.cells #[.string (S x0),.string (S x1)] 55)) (PtDe B w (.slice a0 l.length c0) (l.take i++⟨x0,x1⟩::l.drop i))):=by
       intro W hW
       have hW':Below w.heap.size w (W.alloc (.cells #[.string (S x0),.string (S x1)] 55)):=hW.trans ((Below.refl _ W).alloc hW.size _)
       have r1:=(Ch.of_below (X:=fun _=>False) hW').row (row_zero HR.out) (fun _ _ e=>e)
       refine (insert_anyDe (vb:=W.heap.size) (i:=i) r1 (heap_alloc_new W _) rfl rfl (De.one) (fun e=>by have:=(HR.out.lt _ e).2;have:=hW.size;omega) (by omega) hbig).mono ?_
       rintro e w4 ⟨g,cap,rfl,r4,g4,h4⟩
       have hln:(l.take i++⟨x0,x1⟩::l.drop i).length=l.length+1:=by simp;omega
       have hwh:∀b,(some g:Option Nat)=some b→(Value.slice a0 l.length c0).ownBlock=some b∨w.heap.size≤b:=fun b hb=>by
         cases hb
         rcases h4 with h4 | h4
         · exact .inl h4
         · right;have:=hW'.size;omega
       refine ⟨_,rfl,?_,?_,hwh⟩
       · rw [hln,← fm_ins De.k l i ⟨x0,x1⟩]
         refine row_base r4 (fun b hb=>?_)
         rcases hwh b hb with e | e
         · exact (HR.out.lt b e).1
         · omega
       · exact (Ch.of_below hW').trans (Ch.of_grown g4 (fun b hb _=>hb))
     have hi0:(0:Int)≤(i:Int):=by omega
     clear hF hG HP1 HE
     go_enter Tryz.func69,Tryz.ntmps69
     go_wp2_with (first
       | (go_at_call 70;refine (CK _).mono ?_;rintro e w1 ⟨rfl,b1⟩;(have HM:Hid (∀W,Below (w1.alloc (.cells #[.string (S x0)] 9)).heap.size (w1.alloc (.cells #[.string (S x0)] 9)) W→(W.cell? ⟨w.heap.size,0,none⟩=some (.string (S x0))∧W.cell? ⟨w.heap.size,1,none⟩=some (.string (S x1))∧W.cell? ⟨w.heap.size+1,0,none⟩=some (.func (.func 70) #[] #[])∧W.cell? ⟨w.heap.size+1+1,0,none⟩=some (.func (.func 71) #[] #[])∧W.cell? ⟨w1.heap.size,0,none⟩=some (.string (S x0)))∧Below w.heap.size w W):=putm (HS:=HS.out) b1);obtain ⟨q0,q1,q2,q3⟩:=HS.out w1 b1;(have hz1:w.heap.size+3≤w1.heap.size:=by (have:=b1.size;simp at this;omega));(have n0:w.heap.size<w1.heap.size:=by omega);(have n1:w.heap.size+1<w1.heap.size:=by omega);(have n2:w.heap.size+1+1<w1.heap.size:=by omega);clear b1 CK)
       | (go_at_call 123;refine (CO _).mono ?_;rintro e w2 ⟨caps,rfl,hsay,b2⟩;obtain ⟨⟨r0,r1,r2,r3,r4⟩,hB2⟩:=HM.out w2 b2;(have CI:=indexDe_any (X:=fun _=>False) (fun y=>y.kk==x0) ((Rr.row De.k HR.out).up hB2) hn (enters_of Tryz.func172 (by kernel_rfl) rfl) (fun y hy=>hsay (fun _=>False) (fun _ e=>e.elim) y));(have B2:Hid (Below w.heap.size w w2):=hB2);(have BM:Hid (Below (w1.alloc (.cells #[.string (S x0)] 9)).heap.size (w1.alloc (.cells #[.string (S x0)] 9)) w2):=b2);rw [e1] at CI;clear hsay b2 CO hB2 q0 q1 q2 q3)
       | (go_at_call 122;refine CI.mono ?_;rintro e w3 ⟨rfl,b3⟩;(have B3:Hid (Below w.heap.size w w3):=bel_of B2.out b3 nlr);obtain ⟨⟨t0,t1,t2,t3,t4⟩,-⟩:=HM.out w3 (bel_of BM.out b3 nlr);(have CJ:=CI2 w3 B3.out _ _ _ t3 t4 t2);clear CI2;(have BN:Hid (Below (w1.alloc (.cells #[.string (S x0)] 9)).heap.size (w1.alloc (.cells #[.string (S x0)] 9)) w3):=bel_of BM.out b3 nlr);clear b3 CI r0 r1 r2 r3 r4)
       | (go_at_call 122;refine CJ.mono ?_;rintro e w4 ⟨rfl,b4⟩;obtain ⟨⟨v0,v1,v2,v3,v4⟩,-⟩:=HM.out w4 (bel_of BN.out b4 nlr);(have CN:=HI.out w4 (bel_of B3.out b4 nlr));clear b4 CJ HI t0 t1 t2 t3 t4)
       | (go_at_call 125;refine CN.mono ?_;rintro e w5 ⟨v5,rfl,hr5⟩;(have H5:Hid _:=hr5);clear hr5 CN))
     go_ret
     exact ⟨_,rfl,H5.out⟩
   | none =>
     have e2:fix (fun y=>ltT x0 y.kk) l = -1:=by unfold fix;rw [hG]
     rw [e2] at CI2
     have HE:Hid (putL De.kk ltT l ⟨x0,x1⟩=l++[⟨x0,x1⟩]):=by show _=_;unfold putL;simp only [De.kk] at hF hG ⊢;rw [hF,hG]
     rw [HE.out]
     obtain ⟨i9,hi9,hz0,hz1,hz2⟩:=info_parts infoDe
     have HI:Hid (∀W,Below w.heap.size w W→∃v' w',(Builtin.append_ #[23,23] 23 #[.slice a0 l.length c0,.slice (some ⟨W.heap.size,0,none⟩) 1 1]).run Tryz.prog (W.alloc (.cells #[.string (S x0),.string (S x1)] 55))=.ok v' w'∧PtDe B w (.slice a0 l.length c0) (l++[⟨x0,x1⟩]) (.returned v') w'):=by
       intro W hW
       have hW':Below w.heap.size w (W.alloc (.cells #[.string (S x0),.string (S x1)] 55)):=hW.trans ((Below.refl _ W).alloc hW.size _)
       have r1:=(Ch.of_below (X:=fun _=>False) hW').row (row_zero HR.out) (fun _ _ e=>e)
       obtain ⟨gg,cap,w',hrun,r4,g4,h4,-⟩:=run_append_where (P:=Tryz.prog) (W.alloc (.cells #[.string (S x0),.string (S x1)] 55)) 23 23 55 i9 _ 2 32 Tryz.underlying23 hi9 hz0 hz1 hz2 rfl (by decide) _ _ _ r1 ⟨W.heap.size,0,none⟩ 1 1 [.string (S x0),.string (S x1)] rfl
         (fun j u hj=>by rw [Addr.add_lit];exact cellsDe (heap_alloc_new W _) j u hj) (by intro u hu;simp at hu;rcases hu with rfl | rfl <;> rfl) (by decide) (by unfold maxLen;omega) (fitsDe _ hbig)
       have hwh:∀b,(some gg:Option Nat)=some b→(Value.slice a0 l.length c0).ownBlock=some b∨w.heap.size≤b:=fun b hb=>by
         cases hb
         rcases h4 with h4 | h4
         · exact .inl h4
         · right;have:=hW'.size;omega
       refine ⟨_,_,hrun,_,rfl,?_,(Ch.of_below hW').trans (Ch.of_grown g4 (fun b hb _=>hb)),hwh⟩
       rw [List.length_append,List.flatMap_append]
       refine row_base (by simpa [De.c] using r4) (fun b hb=>?_)
       rcases hwh b hb with e | e
       · exact (HR.out.lt b e).1
       · omega
     clear hF hG HP1 HE
     go_enter Tryz.func69,Tryz.ntmps69
     go_wp2_with (first
       | (go_at_call 70;refine (CK _).mono ?_;rintro e w1 ⟨rfl,b1⟩;(have HM:Hid (∀W,Below (w1.alloc (.cells #[.string (S x0)] 9)).heap.size (w1.alloc (.cells #[.string (S x0)] 9)) W→(W.cell? ⟨w.heap.size,0,none⟩=some (.string (S x0))∧W.cell? ⟨w.heap.size,1,none⟩=some (.string (S x1))∧W.cell? ⟨w.heap.size+1,0,none⟩=some (.func (.func 70) #[] #[])∧W.cell? ⟨w.heap.size+1+1,0,none⟩=some (.func (.func 71) #[] #[])∧W.cell? ⟨w1.heap.size,0,none⟩=some (.string (S x0)))∧Below w.heap.size w W):=putm (HS:=HS.out) b1);obtain ⟨q0,q1,q2,q3⟩:=HS.out w1 b1;(have hz1:w.heap.size+3≤w1.heap.size:=by (have:=b1.size;simp at this;omega));(have n0:w.heap.size<w1.heap.size:=by omega);(have n1:w.heap.size+1<w1.heap.size:=by omega);(have n2:w.heap.size+1+1<w1.heap.size:=by omega);clear b1 CK)
       | (go_at_call 123;refine (CO _).mono ?_;rintro e w2 ⟨caps,rfl,hsay,b2⟩;obtain ⟨⟨r0,r1,r2,r3,r4⟩,hB2⟩:=HM.out w2 b2;(have CI:=indexDe_any (X:=fun _=>False) (fun y=>y.kk==x0) ((Rr.row De.k HR.out).up hB2) hn (enters_of Tryz.func172 (by kernel_rfl) rfl) (fun y hy=>hsay (fun _=>False) (fun _ e=>e.elim) y));(have B2:Hid (Below w.heap.size w w2):=hB2);(have BM:Hid (Below (w1.alloc (.cells #[.string (S x0)] 9)).heap.size (w1.alloc (.cells #[.string (S x0)] 9)) w2):=b2);rw [e1] at CI;clear hsay b2 CO hB2 q0 q1 q2 q3)
       | (go_at_call 122;refine CI.mono ?_;rintro e w3 ⟨rfl,b3⟩;(have B3:Hid (Below w.heap.size w w3):=bel_of B2.out b3 nlr);obtain ⟨⟨t0,t1,t2,t3,t4⟩,-⟩:=HM.out w3 (bel_of BM.out b3 nlr);(have CJ:=CI2 w3 B3.out _ _ _ t3 t4 t2);clear CI2;(have BN:Hid (Below (w1.alloc (.cells #[.string (S x0)] 9)).heap.size (w1.alloc (.cells #[.string (S x0)] 9)) w3):=bel_of BM.out b3 nlr);clear b3 CI r0 r1 r2 r3 r4)
       | (go_at_call 122;refine CJ.mono ?_;rintro e w4 ⟨rfl,b4⟩;obtain ⟨⟨v0,v1,v2,v3,v4⟩,-⟩:=HM.out w4 (bel_of BN.out b4 nlr);obtain ⟨v5,w5,hrun,hpt⟩:=HI.out w4 (bel_of B3.out b4 nlr);(have H5:Hid _:=hpt);clear b4 CJ HI hpt t0 t1 t2 t3 t4)
       | (at_builtin;refine Lib.wpList_append_run _ rfl _ _ _ _ rfl _ _ rfl rfl _ _ hrun ?_))
     go_ret
     exact H5.out

theorem Sx.toDe {B : Nat} {w w2 : World} {sb : Nat} {s : St} {l : List De} {v : Value} (h : Sx B w sb s) (hp : w2.ownsRow B 55 2 v l.length (l.flatMap De.c)) (hc : Ch (fun g => s.vDe.ownBlock = some g) w w2) (hn : ∀ g, v.ownBlock = some g → s.vDe.ownBlock = some g ∨ w.heap.size ≤ g) :
   Sx B (w2.setCell ⟨sb,3,none⟩ v) sb { s with vDe:=v,procs:=l }∧(∀(j:Nat) (u:Value),s.c[j]?=some u→w2.cell? ⟨sb,j,none⟩=some u)∧(∀j:Nat,w2.frozen? ⟨sb,j,none⟩=false):=by
 have h2:=Own.perm (M:=De.rw s.vDe s.procs::(bx sb s.c::(In.rw s.vIn s.insts::Tk.rw s.vTk s.tokens::Jb.rw s.vJb s.jobs::Tm.rw s.vTm s.timers::Sb.rw s.vSb s.subs::Kp.rw s.vKp s.kept::Ls.rw s.vLs s.listed::Ms.rw s.vMs s.msgs::s.inner))) h (perm_ac fun z=>by
   simp only [St.rows,St.main,List.count_append,List.count_cons,List.count_nil,Nat.zero_add]
   ac_rfl)
 have h3:=h2.turn (r':=De.rw v l) hc hp hn
 have h4:=h3.perm (M:=bx sb s.c::(De.rw v l::In.rw s.vIn s.insts::Tk.rw s.vTk s.tokens::Jb.rw s.vJb s.jobs::Tm.rw s.vTm s.timers::Sb.rw s.vSb s.subs::Kp.rw s.vKp s.kept::Ls.rw s.vLs s.listed::Ms.rw s.vMs s.msgs::s.inner)) (perm_ac fun z=>by
   simp only [List.count_cons]
   ac_rfl)
 exact ⟨bx.put h4 3 v,fun j u hj=>bx.cell h4 (List.mem_cons_self ..) hj,fun j=>bx.fro h4 (List.mem_cons_self ..) j⟩

def eDeployed (s:St) (r:Rc):St:={ s with procs:=putL De.kk ltT s.procs ⟨r.a,r.b⟩ }

theorem deployed_any {B : Nat} {w : World} {sb : Nat} {s : St} {r : Rc} (h : Sx B w sb s) (hB : B ≤ w.heap.size) (hz : (s.procs.length + 1) * 32 ≤ 211106232528000) (hr : Rr 4 Vr.c w r.vv r.v) :
   Calls Tryz.prog 41 #[.pointer (some ⟨sb,0,none⟩),.agg r.cs.toArray] w fun e w'=>e=.returned (.tuple #[])∧Eff B w sb (eDeployed s.e r) w':=by
 obtain ⟨ra,rp,hra,-⟩:=id hr
 obtain ⟨r0,r1,r2,r3,r4,r5,r6,r7,r8,r9,r10,r11,rvv,rv⟩:=r
 simp only at hra hr
 subst hra
 clear hr
 simp only [Rc.cs]
 generalize hrn:rv.length=rn at *
 have hbw:Below w.heap.size w (w.alloc (.cells #[.int .i64 r0,.int .i64 r1,.int .u64 (r2:Int),.int .i64 r3,.int .u64 (r4:Int),.int .u64 (r5:Int),.int .u64 (r6:Int),.int .i64 r7,.int .i64 r8,.string (S r9),.string (S r10),.string (S r11),.slice ra rn rp] 39)):=(Below.refl _ w).alloc nlr _
 have hS':=h.up hbw
 obtain ⟨aI,cI,hsI,-⟩:=row_slice hS'.rDe
 have CP:Hid (Calls Tryz.prog 69 #[s.vDe,.agg (De.c ⟨r9,r10⟩).toArray,.func (.func 70) #[] #[],.func (.func 71) #[] #[]] (w.alloc (.cells #[.int .i64 r0,.int .i64 r1,.int .u64 (r2:Int),.int .i64 r3,.int .u64 (r4:Int),.int .u64 (r5:Int),.int .u64 (r6:Int),.int .i64 r7,.int .i64 r8,.string (S r9),.string (S r10),.string (S r11),.slice ra rn rp] 39)).drew (PtDe B (w.alloc (.cells #[.int .i64 r0,.int .i64 r1,.int .u64 (r2:Int),.int .i64 r3,.int .u64 (r4:Int),.int .u64 (r5:Int),.int .u64 (r6:Int),.int .i64 r7,.int .i64 r8,.string (S r9),.string (S r10),.string (S r11),.slice ra rn rp] 39)).drew s.vDe (putL De.kk ltT s.procs ⟨r9,r10⟩))):=putDe_any ⟨r9,r10⟩ (w:=(w.alloc (.cells #[.int .i64 r0,.int .i64 r1,.int .u64 (r2:Int),.int .i64 r3,.int .u64 (r4:Int),.int .u64 (r5:Int),.int .u64 (r6:Int),.int .i64 r7,.int .i64 r8,.string (S r9),.string (S r10),.string (S r11),.slice ra rn rp] 39)).drew) hS'.rDe (Nat.le_trans hB hbw.size) hz
 have HE:Hid (∀v3 w3,w3.ownsRow B 55 2 v3 (putL De.kk ltT s.procs ⟨r9,r10⟩).length ((putL De.kk ltT s.procs ⟨r9,r10⟩).flatMap De.c)→Ch (fun g=>s.vDe.ownBlock=some g) (w.alloc (.cells #[.int .i64 r0,.int .i64 r1,.int .u64 (r2:Int),.int .i64 r3,.int .u64 (r4:Int),.int .u64 (r5:Int),.int .u64 (r6:Int),.int .i64 r7,.int .i64 r8,.string (S r9),.string (S r10),.string (S r11),.slice ra rn rp] 39)).drew w3→(∀g,v3.ownBlock=some g→s.vDe.ownBlock=some g∨(w.alloc (.cells #[.int .i64 r0,.int .i64 r1,.int .u64 (r2:Int),.int .i64 r3,.int .u64 (r4:Int),.int .u64 (r5:Int),.int .u64 (r6:Int),.int .i64 r7,.int .i64 r8,.string (S r9),.string (S r10),.string (S r11),.slice ra rn rp] 39)).drew.heap.size≤g)→Eff B w sb (eDeployed s.e ⟨r0,r1,r2,r3,r4,r5,r6,r7,r8,r9,r10,r11,.slice ra rn rp,rv⟩) ((w3.setCell ⟨sb,3,none⟩ v3))∧(∀(j:Nat) (u:Value),s.c[j]?=some u→w3.cell? ⟨sb,j,none⟩=some u)∧(∀j:Nat,w3.frozen? ⟨sb,j,none⟩=false)):=by
   intro v3 w3 hr3 hc3 hn3
   obtain ⟨k1,k2,k3⟩:=Sx.toDe (w:=(w.alloc (.cells #[.int .i64 r0,.int .i64 r1,.int .u64 (r2:Int),.int .i64 r3,.int .u64 (r4:Int),.int .u64 (r5:Int),.int .u64 (r6:Int),.int .i64 r7,.int .i64 r8,.string (S r9),.string (S r10),.string (S r11),.slice ra rn rp] 39)).drew) (w2:=w3) (h.up hbw.drew) hr3 hc3 hn3
   have hb3:Below B w w3:=(hbw.drew.mono hB).trans ((Own.ge hc3 (Nat.le_trans hB hbw.size) (fun g hg=>(hS'.rDe.lt g hg).1)))
   have hl:=h.lt
   refine ⟨⟨{ s with vDe:=v3,procs:=putL De.kk ltT s.procs ⟨r9,r10⟩ },k1,rfl,?_⟩,k2,k3⟩
   exact (hb3.trans (Ch.below ((Ch.refl (fun b=>b=sb) w3).setCell ⟨sb,3,none⟩ v3 (fun _=>rfl)) (Nat.le_trans hB (Nat.le_trans hbw.size hc3.size)) (fun g hg e=>by omega)))
 have m4:=hS'.cell (j:=3) (u:=s.vDe) rfl
 have f4:=hS'.fro 3
 have z0:(w.alloc (.cells #[.int .i64 r0,.int .i64 r1,.int .u64 (r2:Int),.int .i64 r3,.int .u64 (r4:Int),.int .u64 (r5:Int),.int .u64 (r6:Int),.int .i64 r7,.int .i64 r8,.string (S r9),.string (S r10),.string (S r11),.slice ra rn rp] 39)).cell? ⟨w.heap.size,9,none⟩=some (.string (S r9)):=World.cell?_alloc_new _ _ _ _
 have z1:(w.alloc (.cells #[.int .i64 r0,.int .i64 r1,.int .u64 (r2:Int),.int .i64 r3,.int .u64 (r4:Int),.int .u64 (r5:Int),.int .u64 (r6:Int),.int .i64 r7,.int .i64 r8,.string (S r9),.string (S r10),.string (S r11),.slice ra rn rp] 39)).cell? ⟨w.heap.size,10,none⟩=some (.string (S r10)):=World.cell?_alloc_new _ _ _ _
 have hU:=up1_wrap s.made
 simp only [De.c] at CP
 rw [hsI] at CP HE m4
 clear hS' hbw hz hB
 have HH:Hid (Sx B w sb s):=h
 clear h
 go_enter Tryz.func41,Tryz.ntmps41
 go_wp2
 generalize (w.alloc (.cells #[.int .i64 r0,.int .i64 r1,.int .u64 (r2:Int),.int .i64 r3,.int .u64 (r4:Int),.int .u64 (r5:Int),.int .u64 (r6:Int),.int .i64 r7,.int .i64 r8,.string (S r9),.string (S r10),.string (S r11),.slice ra rn rp] 39))=W2 at *
 go_region_with (first
   | (go_at_call 69;refine CP.out.mono ?_;rintro e w3 ⟨v3,rfl,hr3,hc3,hn3⟩;obtain ⟨a3,d3,hs3,-⟩:=row_slice hr3;subst hs3;obtain ⟨k1,k2,k3⟩:=HE.out _ w3 hr3 hc3 hn3;(have K1:Hid _:=k1);(have m2:=k2 2 _ rfl);(have m5:=k2 3 _ rfl);(have f2:=k3 2);(have f5:=k3 3);clear k1 k2 k3 hr3 hc3 hn3))
 all_goals
   go_wp2
   go_end0
   exact ⟨rfl,K1.out⟩
end Go.Proofs.YtmfempdcpoeicaaGreat.f13
