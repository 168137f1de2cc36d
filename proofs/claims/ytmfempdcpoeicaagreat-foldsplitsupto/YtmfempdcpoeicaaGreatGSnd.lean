/-
  What is done to a place, and to a message.
-/
import Derived.Test.YtmfempdcpoeicaaGreatF13Ef0
import Derived.Deep.RegionLaw
import Derived.Test.YtmfempdcpoeicaaGreatF13Del
import Derived.Test.YtmfempdcpoeicaaGreatF13Rows
import Derived.Test.YtmfempdcpoeicaaGreatF13Wi
set_option maxHeartbeats 4000000
set_option maxRecDepth 100000
namespace Go.Proofs.YtmfempdcpoeicaaGreat.f13
open Go.RowKit Go.Shelf Go.Sort
open Go.Lib hiding intOf

def Snt (w:World) (b o k:Nat) (l:List Vr) (w':World):Prop:=∃v',w'.ownsRow w.heap.size 64 4 v' l.length (l.flatMap Vr.c)∧Ch (fun g=>g=b) w w'∧∀(B:Nat) (t:TypeId) (kk n cap:Nat) (cs:List Value),w.ownsRow B t kk (.slice (some ⟨b,0,none⟩) n cap) n cs→w'.ownsRow B t kk (.slice (some ⟨b,0,none⟩) n cap) n ((cs.set (o+5) (.int .u64 (k:Int))).set (o+6) v')
theorem Snt.a {w w1:World} {b o k:Nat} {l:List Vr} {v1:Value} (b1:Below w.heap.size w w1) (r1:w1.ownsRow w.heap.size 64 4 v1 l.length (l.flatMap Vr.c)) (hb:b<w.heap.size):Snt w b o k l ((w1.setCell ⟨b,o+5,none⟩ (.int .u64 (k:Int))).setCell ⟨b,o+6,none⟩ v1):=by
 have hc:Ch (fun g=>g=b) w1 ((w1.setCell ⟨b,o+5,none⟩ (.int .u64 (k:Int))).setCell ⟨b,o+6,none⟩ v1):=((Ch.refl (fun g=>g=b) w1).setCell ⟨b,_,none⟩ _ (fun _=>rfl)).setCell ⟨b,_,none⟩ _ (fun _=>rfl)
 exact ⟨v1,hc.row r1 (fun g hg e=>by have:=(r1.lt g hg).1;omega),(Ch.of_below b1).trans hc,fun B t kk n cap cs h=>row_put (row_put ((Ch.of_below (X:=fun _=>False) b1).row h (fun _ _ e=>e)) _ _) _ _⟩
theorem Snt.a2 {w w1:World} {b o k:Nat} {l:List Vr} {v1:Value} (b1:Below w.heap.size w w1) (r1:w1.ownsRow w.heap.size 64 4 v1 l.length (l.flatMap Vr.c)) (hb:b<w.heap.size):Snt w b o k l ((w1.setCell ⟨b,o+6,none⟩ v1).setCell ⟨b,o+5,none⟩ (.int .u64 (k:Int))):=by
 have hc:Ch (fun g=>g=b) w1 ((w1.setCell ⟨b,o+6,none⟩ v1).setCell ⟨b,o+5,none⟩ (.int .u64 (k:Int))):=((Ch.refl (fun g=>g=b) w1).setCell ⟨b,_,none⟩ _ (fun _=>rfl)).setCell ⟨b,_,none⟩ _ (fun _=>rfl)
 refine ⟨v1,hc.row r1 (fun g hg e=>by have:=(r1.lt g hg).1;omega),(Ch.of_below b1).trans hc,fun B t kk n cap cs h=>?_⟩
 have:=row_put (row_put ((Ch.of_below (X:=fun _=>False) b1).row h (fun _ _ e=>e)) (o+6) v1) (o+5) (.int .u64 (k:Int))
 rw [List.set_comm _ _ (by omega)] at this
 exact this
theorem Snt.b {w w0 w1:World} {b o k:Nat} {l:List Vr} {v1:Value} (b1:Below (w0.setCell ⟨b,o+5,none⟩ (.int .u64 (k:Int))).heap.size (w0.setCell ⟨b,o+5,none⟩ (.int .u64 (k:Int))) w1) (b0:Below w.heap.size w w0) (r1:w1.ownsRow (w0.setCell ⟨b,o+5,none⟩ (.int .u64 (k:Int))).heap.size 64 4 v1 l.length (l.flatMap Vr.c)) (hb:b<w.heap.size):Snt w b o k l (w1.setCell ⟨b,o+6,none⟩ v1):=by
 have h0:Ch (fun g=>g=b) w0 (w0.setCell ⟨b,o+5,none⟩ (.int .u64 (k:Int))):=(Ch.refl (fun g=>g=b) w0).setCell ⟨b,_,none⟩ _ (fun _=>rfl)
 have hz:=h0.size
 have hz0:=b0.size
 have hc:Ch (fun g=>g=b) w1 (w1.setCell ⟨b,o+6,none⟩ v1):=(Ch.refl (fun g=>g=b) w1).setCell ⟨b,_,none⟩ _ (fun _=>rfl)
 refine ⟨v1,hc.row (row_base (row_zero r1) (fun g hg=>by have:=(r1.lt g hg).1;omega)) (fun g hg e=>by have:=(r1.lt g hg).1;omega),((Ch.of_below b0).trans h0).trans ((Ch.of_below b1).trans hc),fun B t kk n cap cs h=>?_⟩
 exact row_put ((Ch.of_below (X:=fun _=>False) b1).row (row_put ((Ch.of_below (X:=fun _=>False) b0).row h (fun _ _ e=>e)) _ _) (fun _ _ e=>e)) _ _
theorem Snt.drew {w w':World} {b o k:Nat} {l:List Vr} (h:Snt w b o k l w'):Snt w b o k l w'.drew:=by
 obtain ⟨v',h1,h2,h3⟩:=h
 have hd:Ch (fun _=>False) w' w'.drew:=(Ch.refl _ w').drew
 exact ⟨v',hd.row h1 (fun _ _ e=>e),h2.drew,fun B t kk n cap cs h=>hd.row (h3 B t kk n cap cs h) (fun _ _ e=>e)⟩
theorem sending1_any {w : World} {b o mb k : Nat} {v : Value} {l : List Vr} (c0 : w.cell? ⟨mb, 0, none⟩ = some (.int .u64 (k : Int))) (c5 : w.cell? ⟨mb, 5, none⟩ = some v) (hne : ¬ mb = b) (hv : ∀ W, Ch (fun g => g = b) w W → Rr 4 Vr.c W v l) (hn : l.length * 48 ≤ 211106232528000) (h5 : ∃ u, w.cell? ⟨b, o + 5, none⟩ = some u) (f5 : w.frozen? ⟨b, o + 5, none⟩ = false) (h6 : ∃ u, w.cell? ⟨b, o + 6, none⟩ = some u) (f6 : w.frozen? ⟨b, o + 6, none⟩ = false) :
   Calls Tryz.prog 115 #[.pointer (some ⟨b,o,none⟩),.pointer (some ⟨mb,0,none⟩)] w fun e w'=>e=.returned (.tuple #[])∧Snt w b o k l w':=by
 obtain ⟨u5,h5⟩:=h5
 obtain ⟨u6,h6⟩:=h6
 have hb:b<w.heap.size:=World.block_lt_of_cell? w _ h5
 obtain ⟨a,cap,hva,-⟩:=id (hv w (Ch.refl _ w))
 have CF:Hid (∀W,Ch (fun g=>g=b) w W→Calls Tryz.prog 14 #[v] W fun e w'=>∃v',e=.returned v'∧w'.ownsRow W.heap.size 64 4 v' l.length (l.flatMap Vr.c)∧Below W.heap.size W w'):=fun W hW=>freshVr_any (hv W hW) hn
 have HM:Hid (∀W,Ch (fun g=>g=b) w W→W.cell? ⟨mb,0,none⟩=some (.int .u64 (k:Int))∧W.cell? ⟨mb,5,none⟩=some v):=fun W hW=>⟨hW.cell c0 hne,hW.cell c5 hne⟩
 have HN:Hid (∀W,Ch (fun g=>False) w W→(W.cell? ⟨b,o+5,none⟩=some u5∧W.frozen? ⟨b,o+5,none⟩=false)∧W.cell? ⟨b,o+6,none⟩=some u6∧W.frozen? ⟨b,o+6,none⟩=false):=fun W hW=>⟨⟨hW.cell h5 (fun e=>e),(by have:=hW.block b hb (fun e=>e);simpa [World.frozen?,this] using f5)⟩,hW.cell h6 (fun e=>e),(by have:=hW.block b hb (fun e=>e);simpa [World.frozen?,this] using f6)⟩
 subst hva
 clear hv hn
 go_enter Tryz.func115,Tryz.ntmps115
 go_wp2
 go_region_held3 (fun W=>W.cell? ⟨mb,0,none⟩=some (.int .u64 (k:Int))∧W.cell? ⟨mb,5,none⟩=some (.slice a l.length cap))
   (first | go_keep | exact HM.out _ (Ch.refl _ _) | exact HM.out _ (Ch.refl _ _).drew | exact HM.out _ hXc | exact HM.out _ (hXc.setCell ⟨b,_,none⟩ _ (fun _=>rfl)) | exact HM.out _ ((hXc.setCell ⟨b,_,none⟩ _ (fun _=>rfl)).setCell ⟨b,_,none⟩ _ (fun _=>rfl)))
   (first | (go_at_call 14;refine (CF.out _ (Ch.refl _ _).drew).mono ?_;rintro e w1 ⟨v1,rfl,r1,b1⟩;obtain ⟨a1,c1,rfl,-⟩:=row_slice r1;(have hX:Below w.heap.size w w1:=(Below.refl _ w).drew.trans (b1.mono nlr));(have hXc:Ch (fun g=>g=b) w w1:=Ch.of_below hX);obtain ⟨⟨m5,g5⟩,m6,g6⟩:=HN.out w1 (Ch.of_below hX);(have R1:Hid (Below w.heap.size w w1∧w1.ownsRow w.heap.size 64 4 (.slice a1 l.length c1) l.length (l.flatMap Vr.c)):=⟨hX,r1⟩);clear r1 b1))
 all_goals
   go_wp2
   go_end0
   refine ⟨rfl,?_⟩
   first | exact Snt.a R1.out.1 R1.out.2 hb | exact (Snt.a R1.out.1 R1.out.2 hb).drew

theorem fitsUn (n:Nat) (h:n*8≤211106232528000):(n+n / 4+192)*8≤281474976710656:=by omega
theorem step_append_run {ops : Array Oper} {o : Oper} {a : Act} {w : World} {K : Act → World → Prop} {Q : Exit → Act → World → Prop} {E : Prop} (hgd : o.guard = none) (s x : Operand) (t u : TypeId)
   (ho:o.op=.call { callee:=.builtin .append,args:=#[s,x],argTypes:=#[t,u] }) (v y v':Value) (w':World) (hs:a.eval s=v) (hx:a.eval x=y)
   (hr:(Builtin.append_ #[t,u] o.type #[v,y]).run Tryz.prog w=.ok v' w') (h:K (a.put o.dst v') w') :
   if Region.wanted o (yielded ops a.tmps)=true then Oper.wp Tryz.prog o a w K Q else E:=by
 have hw:Region.wanted o (yielded ops a.tmps)=true:=by simp [Region.wanted,hgd]
 rw [if_pos hw]
 unfold Oper.wp
 simp [execOp,ho,resolve,invoke,builtin,hs,hx,hr,Result.andThen]
 exact h
def Its (w:World) (b o:Nat) (v:Value) (its:List Nat) (w':World):Prop:=∃v' w1,w'=w1.setCell ⟨b,o+6,none⟩ v'∧(∀B:Nat,B≤w.heap.size→(∀g,v.ownBlock=some g→B≤g)→w1.ownsRow B 22 1 v' its.length (its.flatMap Un.c))∧Ch (fun g=>v.ownBlock=some g) w w1∧∀g,v'.ownBlock=some g→v.ownBlock=some g∨w.heap.size≤g
theorem sending2_any {w : World} {B b o lb k : Nat} {v : Value} {its : List Nat} (hc : w.cell? ⟨b, o + 6, none⟩ = some v) (hf : w.frozen? ⟨b, o + 6, none⟩ = false) (hl : w.cell? ⟨lb, 1, none⟩ = some (.int .u64 (k : Int))) (row : w.ownsRow B 22 1 v its.length (its.flatMap Un.c)) (hbig : (its.length + 1) * 8 ≤ 211106232528000) (hoff : ∀ g, v.ownBlock = some g → g ≠ b) :
   Calls Tryz.prog 117 #[.pointer (some ⟨b,o,none⟩),.pointer (some ⟨lb,0,none⟩)] w fun e w'=>e=.returned (.tuple #[])∧Its w b o v (its++[k]) w':=by
 obtain ⟨a,c,rfl,-⟩:=row_slice row
 have hb:b<w.heap.size:=World.block_lt_of_cell? w _ hc
 have hlb:lb<w.heap.size:=World.block_lt_of_cell? w _ hl
 obtain ⟨i9,hi9,hz0,hz1,hz2⟩:=info_parts infoUn
 have HI:∃v' w',(Builtin.append_ #[85,85] 85 #[.slice a its.length c,.slice (some ⟨w.heap.size,0,none⟩) 1 1]).run Tryz.prog ((w.alloc (.cells #[.int .u64 (k:Int)] 22)).drew)=.ok v' w'∧(∃a n c,v'=.slice a n c)∧(w'.cell? ⟨b,o+6,none⟩=some (.slice a its.length c)∧w'.frozen? ⟨b,o+6,none⟩=false)∧Hid (Its w b o (.slice a its.length c) (its++[k]) (w'.setCell ⟨b,o+6,none⟩ v')):=by
   have hW':Below w.heap.size w ((w.alloc (.cells #[.int .u64 (k:Int)] 22)).drew):=((Below.refl _ w).alloc nlr _).drew
   have r1:=(Ch.of_below (X:=fun _=>False) hW').row (row_zero row) (fun _ _ e=>e)
   obtain ⟨gg,cap,w',hrun,r4,g4,h4,-⟩:=run_append_where (P:=Tryz.prog) ((w.alloc (.cells #[.int .u64 (k:Int)] 22)).drew) 85 85 22 i9 _ 1 8 Tryz.underlying85 hi9 hz0 hz1 hz2 rfl (by decide) _ _ _ r1 ⟨w.heap.size,0,none⟩ 1 1 [.int .u64 (k:Int)] rfl
     (fun j u hj=>by
       rw [Addr.add_lit]
       match j,hj with
       | 0,hj=>exact (World.cell?_alloc_new w _ _ 0).trans hj) (by intro u hu;simp at hu;subst hu;rfl) (by decide) (by unfold maxLen;omega) (fitsUn _ hbig)
   have hwh:∀g,(some gg:Option Nat)=some g→(Value.slice a its.length c).ownBlock=some g∨w.heap.size≤g:=fun g hg=>by
     cases hg
     rcases h4 with h4 | h4
     · exact .inl h4
     · right;have:=hW'.size;omega
   have hC:Ch (fun g=>(Value.slice a its.length c).ownBlock=some g) w w':=(Ch.of_below hW').trans (Ch.of_grown g4 (fun b hb _=>hb))
   refine ⟨_,w',hrun,⟨_,_,_,rfl⟩,⟨hC.cell hc (fun e=>hoff b e rfl),?_⟩,_,w',rfl,fun B' hB' hlow=>?_,hC,hwh⟩
   · have:=hC.block b hb (fun e=>hoff b e rfl)
     simpa [World.frozen?,this] using hf
   · rw [List.length_append,List.flatMap_append]
     refine row_base (by simpa [Un.c] using r4) (fun b hb=>?_)
     rcases hwh b hb with e | e
     · exact hlow b e
     · omega
 obtain ⟨v',w',hrun,⟨a1,n1,c1,rfl⟩,⟨hc',hf'⟩,HF⟩:=HI
 have HC:Hid (∀W,Below w.heap.size w W→W.cell? ⟨b,o+6,none⟩=some (.slice a its.length c)∧W.cell? ⟨lb,1,none⟩=some (.int .u64 (k:Int))):=fun W hW=>⟨(hW.cell (p:=⟨b,o+6,none⟩) hb).trans hc,(hW.cell (p:=⟨lb,1,none⟩) hlb).trans hl⟩
 clear hi9 hz0 hz1 hz2 row hbig hoff hf
 go_enter Tryz.func117,Tryz.ntmps117
 go_wp2
 go_region_law (refine step_append_run (by rfl) _ _ _ _ (by rfl) _ _ _ _ (by rfl) (by rfl) hrun ?_)
 all_goals
   go_wp2
   go_end0
   exact ⟨rfl,HF.out⟩

theorem indexUn_any {X : Nat → Prop} {w : World} {v : Value} {l : List Un} {kf : Nat} {caps : Array Value} (q : Un → Bool) (hv : Rr 1 Un.c w v l) (hn : l.length ≤ 4611686018427387904) (ek : Ent0 kf) (hq : ∀ x ∈ l, Say X w kf caps #[.int .u64 (x : Int)] (q x)) :
   Calls Tryz.prog 197 #[v,.func (.func kf) #[] caps] w fun e w'=>e=.returned (.int .i64 (fix q l))∧Below w.heap.size w w':=by
 have HV:Hid (Rr 1 Un.c w v l):=hv
 have HQ:Hid (∀x∈l,Say X w kf caps #[.int .u64 (x:Int)] (q x)):=hq
 obtain ⟨a,cap,rfl,-⟩:=hv
 unfold Ent0 at ek
 clear hq
 go_enter Tryz.func197,Tryz.ntmps197
 go_wp2
 go_loopw [8] (fun v8 wr=>∃j:Nat,v8=.int .i64 (j:Int)∧j≤l.length∧Hid (Below w.heap.size w wr∧∀(i:Nat) (hi:i<j) (hl:i<l.length),q l[i]=false)) (fun v8 _=>l.length-(intOf v8).toNat)
 case atStart=>exact ⟨0,rfl,Nat.zero_le _,brf,fun i hi=>by omega⟩
 case round =>
   obtain ⟨j,rfl,hj,HB⟩:=hrel
   by_cases hjl:j<l.length
   · have hjl':(j:Int)<(l.length:Int):=by omega
     have hj0:(0:Int)≤(j:Int):=by omega
     obtain ⟨b',off,cap',hsl,-,hbl,hcell⟩:=HV.out.at hjl
     cases hsl
     have CG:=HQ.out l[j] (List.getElem_mem hjl) wr (Ch.of_below HB.out.1)
     have m0:=hcell wr HB.out.1 j hjl 0 _ rfl
     simp only [Nat.add_zero] at m0
     clear hcell
     by_cases hx:q l[j]=true
     · have HE:Hid (fix q l=(j:Int)):=by
         show _=_
         unfold fix
         rw [findIdx_next hjl (fun i hi=>HB.out.2 i hi (by omega)) hx]
       rw [hx] at CG
       clear hx HQ HV
       generalize l[j]=x at *
       simp only [Nat.mul_one] at m0
       go_wp2
       refine CG.mono ?_
       rintro e w1 ⟨rfl,b1⟩
       have B1:Hid (Below w.heap.size w w1):=bel_of HB.out.1 b1 nlr
       clear b1 CG HB
       go_wp2
       go_ret
       rw [HE.out]
       exact ⟨rfl,B1.out⟩
     · have hx':q l[j]=false:=by simpa using hx
       have HP':Hid (∀(i:Nat) (hi:i<j+1) (hl:i<l.length),q l[i]=false):=fun i hi hl=>by
         by_cases e:i=j
         · subst e;exact hx'
         · exact HB.out.2 i (by omega) hl
       rw [hx'] at CG
       clear hx hx' HQ HV
       generalize l[j]=x at CG m0
       simp only [Nat.mul_one] at m0
       go_wp2
       refine CG.mono ?_
       rintro e w1 ⟨rfl,b1⟩
       have B1:Hid (Below w.heap.size w w1):=bel_of HB.out.1 b1 nlr
       clear b1 CG HB
       go_wp2
       go_roundw
       case rel=>exact ⟨j+1,by simp,by omega,B1.out,HP'.out⟩
       case measure=>simp [intOf];omega
   · have hjl':¬(j:Int)<(l.length:Int):=by omega
     have HE:Hid (fix q l = -1):=by
       show _=_
       unfold fix
       rw [findIdx_none (fun i hi=>HB.out.2 i (by omega) hi)]
     have B1:Hid (Below w.heap.size w wr):=HB.out.1
     clear HQ HV HB
     go_wp2
     go_ret
     rw [HE.out]
     exact ⟨rfl,B1.out⟩

theorem delUn_any {B : Nat} {w : World} {v : Value} {l : List Un} {kf : Nat} {caps : Array Value} (q : Un → Bool) (h : w.ownsRow B 22 1 v l.length (l.flatMap Un.c)) (hn : l.length ≤ 4611686018427387904) (ek : Ent0 kf) (hq : ∀ x ∈ l, Say (fun g => v.ownBlock = some g) w kf caps #[.int .u64 (x : Int)] (q x)) :
   Calls Tryz.prog 171 #[v,.func (.func kf) #[] caps] w fun e w'=>∃v',e=.returned v'∧w'.ownsRow B 22 1 v' (l.filter fun x=>!q x).length ((l.filter fun x=>!q x).flatMap Un.c)∧Ch (fun g=>v.ownBlock=some g) w w'∧v'.ownBlock=v.ownBlock:=by
 have CI:=indexUn_any q (Rr.row Un.k h) hn ek hq
 have HQ:Hid (∀x∈l,Say (fun g=>v.ownBlock=some g) w kf caps #[.int .u64 (x:Int)] (q x)):=hq
 unfold Ent0 at ek
 clear hq
 cases hF:l.findIdx? q with
 | none =>
   have e0:fix q l = -1:=by unfold fix;rw [hF]
   have HFl:Hid ((l.filter fun x=>!q x)=l):=by
     show _=_
     rw [List.filter_eq_self]
     intro x hx
     rw [List.findIdx?_eq_none_iff] at hF
     simp [hF x hx]
   have HR:Hid (w.ownsRow B 22 1 v l.length (l.flatMap Un.c)):=h
   rw [e0] at CI
   obtain ⟨a,cp,hs,-⟩:=row_slice h
   clear h hF HQ e0
   subst hs
   go_enter Tryz.func171,Tryz.ntmps171
   go_wp2_with (go_at_call 197;refine CI.mono ?_;rintro e w1 ⟨rfl,b1⟩;(have HC:Hid (Ch (fun g=>(Value.slice a l.length cp).ownBlock=some g) w w1):=Ch.of_below b1);(have HR1:Hid (w1.ownsRow B 22 1 (.slice a l.length cp) l.length (l.flatMap Un.c)):=(Ch.of_below (X:=fun _=>False) b1).row HR.out (fun _ _ e=>e));clear b1 CI)
   go_ret
   rw [HFl.out]
   exact ⟨_,rfl,HR1.out,HC.out,rfl⟩
 | some i0 =>
   have e0:fix q l=(i0:Int):=by unfold fix;rw [hF]
   obtain ⟨hi0,hqi,hqb⟩:=List.findIdx?_eq_some_iff_getElem.1 hF
   obtain ⟨g,cap,rfl,hcap⟩:=row_any h (by omega)
   have hcm:cap≤9223372036854775807:=by obtain ⟨_,_,e,-,-,h9⟩:=row_slice h;injection e with _ _ e;omega
   obtain ⟨i9,hi9,hz0,hz1,hz2⟩:=info_parts infoUn
   have HR:Hid (w.ownsRow B 22 1 (.slice (some ⟨g,0,none⟩) l.length cap) l.length (l.flatMap Un.c)):=h
   have K0:(l.take i0).filter (fun x=>!q x)=l.take i0:=by
     rw [List.filter_eq_self]
     intro x hx
     obtain ⟨n,hn,rfl⟩:=List.getElem_of_mem hx
     rw [List.length_take] at hn
     have:=hqb n (by omega)
     rw [List.getElem_take]
     simpa using this
   have HS:Hid (∃mid:List Un,mid.length=i0+1-i0∧((l.take (i0+1)).filter fun x=>!q x).length=i0∧w.ownsRow B 22 1 (.slice (some ⟨g,0,none⟩) l.length cap) l.length ((((l.take (i0+1)).filter fun x=>!q x)++mid++l.drop (i0+1)).flatMap Un.c)):=by
     refine ⟨[l[i0]],by simp,?_,?_⟩
     · rw [filter_snoc hi0,K0,hqi];simp;omega
     · rw [filter_snoc hi0,K0,hqi]
       have:l.take i0++(if (!true)=true then [l[i0]] else [])++[l[i0]]++l.drop (i0+1)=l:=by simp
       rw [this];exact h
   rw [e0] at CI
   clear h hF K0 e0 hqb hqi
   have hw0:IntKind.i64.wrap ((i0:Int)+1)=(i0:Int)+1:=by rw [IntKind.wrap_i64];omega
   have hne:((i0:Int)==-1)=false:=by rw [beq_eq_false_iff_ne];omega
   have hne2:¬(i0:Int) = -1:=by omega
   go_enter Tryz.func171,Tryz.ntmps171
   go_wp2_with (go_at_call 197;refine CI.mono ?_;rintro e w1 ⟨rfl,b1⟩;(have HC:Hid (Ch (fun g'=>(some g:Option Nat)=some g') w w1∧∃mid:List Un,mid.length=i0+1-i0∧((l.take (i0+1)).filter fun x=>!q x).length=i0∧w1.ownsRow B 22 1 (.slice (some ⟨g,0,none⟩) l.length cap) l.length ((((l.take (i0+1)).filter fun x=>!q x)++mid++l.drop (i0+1)).flatMap Un.c)):=by (obtain ⟨mid,h1,h2,h3⟩:=HS.out;exact ⟨Ch.of_below b1,mid,h1,h2,(Ch.of_below (X:=fun _=>False) b1).row h3 (fun _ _ e=>e)⟩));clear b1 CI HS)
   go_loopw [5,6] (fun v5 v6 wr=>∃i j:Nat,v5=.int .i64 (i:Int)∧v6=.int .i64 (j:Int)∧i<j∧j≤l.length∧Hid (Ch (fun g'=>(some g:Option Nat)=some g') w wr∧∃mid:List Un,mid.length=j-i∧((l.take j).filter fun x=>!q x).length=i∧wr.ownsRow B 22 1 (.slice (some ⟨g,0,none⟩) l.length cap) l.length ((((l.take j).filter fun x=>!q x)++mid++l.drop j).flatMap Un.c))) (fun _ v6 _=>l.length-(intOf v6).toNat)
   case atStart=>exact ⟨i0,i0+1,rfl,by simp,by omega,by omega,HC.out⟩
   case round =>
     clear HC hne hne2 hw0
     obtain ⟨i,j,rfl,rfl,hij,hjl,HM⟩:=hrel
     by_cases hlt:j<l.length
     · have hlt':(j:Int)<(l.length:Int):=by omega
       have hj0:(0:Int)≤(j:Int):=by omega
       have hii:(0:Int)≤(i:Int):=by omega
       have hil:(i:Int)<(l.length:Int):=by omega
       obtain ⟨hC,mid,hmid,hKl,hrow⟩:=HM.out
       have hd:l.drop j=l[j]::l.drop (j+1):=(List.getElem_cons_drop (h:=hlt)).symm
       have hxj:(((l.take j).filter fun x=>!q x)++mid++l.drop j)[j]?=some l[j]:=by
         rw [List.getElem?_append_right (by simp;omega),List.length_append,hKl,hmid,hd,show j-(i+(j-i))=0 by omega];rfl
       have hXl:(((l.take j).filter fun x=>!q x)++mid++l.drop j).length=l.length:=by simp [hKl,hmid];omega
       have hiX:i<(((l.take j).filter fun x=>!q x)++mid++l.drop j).length:=by omega
       have m0:wr.cell? ⟨g,j*1+0,none⟩=some (.int .u64 (l[j]:Int)):=row_cell hrow (by rw [fm_get Un.k _ j 0 (by omega),hxj];rfl)
       simp only [Nat.add_zero] at m0
       have CG:=HQ.out l[j] (List.getElem_mem hlt)
       have HX:Hid (∀W,Ch (fun _=>False) wr W→W.ownsRow B 22 1 (.slice (some ⟨g,0,none⟩) l.length cap) l.length ((((l.take j).filter fun x=>!q x)++mid++l.drop j).flatMap Un.c)∧Ch (fun g'=>(some g:Option Nat)=some g') w W):=fun W hW=>⟨hW.row hrow (fun _ _ e=>e),hC.trans (hW.mono (fun _ _ e=>e.elim))⟩
       by_cases hx:q l[j]=true
       · have HN:Hid (∀W,Ch (fun _=>False) wr W→Ch (fun g'=>(some g:Option Nat)=some g') w W∧∃mid:List Un,mid.length=j+1-i∧((l.take (j+1)).filter fun x=>!q x).length=i∧W.ownsRow B 22 1 (.slice (some ⟨g,0,none⟩) l.length cap) l.length ((((l.take (j+1)).filter fun x=>!q x)++mid++l.drop (j+1)).flatMap Un.c)):=by
           intro W hW
           obtain ⟨r1,c1⟩:=HX.out W hW
           refine ⟨c1,mid++[l[j]],by simp;omega,by rw [filter_snoc hlt,hx];simpa using hKl,?_⟩
           rw [filter_snoc hlt,hx]
           have:((l.take j).filter fun x=>!q x)++(if (!true)=true then [l[j]] else [])++(mid++[l[j]])++l.drop (j+1)=((l.take j).filter fun x=>!q x)++mid++l.drop j:=by rw [hd];simp
           rw [this]
           exact r1
         have CH:=HX
         rw [hx] at CG
         clear hx HM hrow hC hxj hXl hd hKl hmid hiX
         generalize l[j]=x at *
         simp only [Nat.mul_one] at m0
         have CG1:=CG _ (HX.out wr (Ch.refl _ wr)).2
         clear CG
         go_wp2
         refine CG1.mono ?_
         rintro e w2 ⟨rfl,b2⟩
         have H3:Hid _:=HN.out w2 (Ch.of_below b2)
         clear CG1 HN b2 HX CH
         go_wp2
         go_roundw
         case rel=>exact ⟨i,j+1,rfl,by simp,by omega,by omega,H3.out⟩
         case measure=>simp [intOf];omega
       · have hx':q l[j]=false:=by simpa using hx
         have HN:Hid (∀W,Ch (fun _=>False) wr W→Ch (fun g'=>(some g:Option Nat)=some g') w (W.setCells g (i*1) (Un.c l[j]))∧∃mid:List Un,mid.length=j+1-(i+1)∧((l.take (j+1)).filter fun x=>!q x).length=i+1∧(W.setCells g (i*1) (Un.c l[j])).ownsRow B 22 1 (.slice (some ⟨g,0,none⟩) l.length cap) l.length ((((l.take (j+1)).filter fun x=>!q x)++mid++l.drop (j+1)).flatMap Un.c)):=by
           intro W hW
           obtain ⟨r1,c1⟩:=HX.out W hW
           refine ⟨ch_setCells c1 g _ _ (fun _=>rfl),mid.tail++[l[j]],by simp;omega,by rw [filter_snoc hlt,hx'];simp [hKl],?_⟩
           have:=row_elem Un.k r1 i hiX l[j]
           have e2:(((l.take j).filter fun x=>!q x)++mid++l.drop j).set i l[j]=(((l.take (j+1)).filter fun x=>!q x)++(mid.tail++[l[j]])++l.drop (j+1)):=by
             rw [filter_snoc hlt,hx',hd,← hKl,set_gap (by omega)];rfl
           rw [e2] at this
           exact this
         have HF:Hid (∀W,Ch (fun _=>False) wr W→(W.cell? ⟨g,i*1+0,none⟩).isSome=true∧W.frozen? ⟨g,i*1+0,none⟩=false):=by
           intro W hW
           have r1:=(HX.out W hW).1
           have cc:∀n,n<1→(W.cell? ⟨g,i*1+n,none⟩).isSome=true:=fun n hn=>by
             have e3:((((l.take j).filter fun x=>!q x)++mid++l.drop j).flatMap Un.c)[i*1+n]?=some ((Un.c ((((l.take j).filter fun x=>!q x)++mid++l.drop j)[i]))[n]'(by rw [Un.k];exact hn)):=by
               rw [fm_get Un.k _ i n hn,List.getElem?_eq_getElem hiX]
               exact List.getElem?_eq_getElem _
             rw [row_cell r1 e3];rfl
           exact ⟨cc 0 (by omega),row_fro r1 _⟩
         rw [hx'] at CG
         clear hx hx' HM hrow hC hxj hXl hd hKl hmid hiX
         generalize l[j]=x at *
         simp only [Nat.mul_one] at m0
         have CG1:=CG _ (HX.out wr (Ch.refl _ wr)).2
         clear CG
         go_wp2
         refine CG1.mono ?_
         rintro e w2 ⟨rfl,b2⟩
         have HW2:Ch (fun _=>False) wr w2:=Ch.of_below b2
         have H3:Hid _:=HN.out w2 HW2
         obtain ⟨p0,f0⟩:=HF.out w2 HW2
         simp only [Nat.add_zero,Nat.mul_one] at p0 f0 H3
         obtain ⟨u0,p0⟩:=Option.isSome_iff_exists.1 p0
         have hw1:IntKind.i64.wrap ((i:Int)+1)=(i:Int)+1:=by rw [IntKind.wrap_i64];omega
         clear CG1 HN b2 HX HF HW2
         go_wp2
         go_roundw
         case rel=>exact ⟨i+1,j+1,by simp,by simp,by omega,by omega,H3.out⟩
         case measure=>simp [intOf];omega
     · have hlt':¬(j:Int)<(l.length:Int):=by omega
       obtain rfl:j=l.length:=by omega
       obtain ⟨hC,mid,hmid,hKl,hrow⟩:=HM.out
       rw [List.take_length] at hKl hrow
       rw [List.drop_length,List.append_nil,List.flatMap_append] at hrow
       have hzl:=zero_len (.int .u64 0) 1 rfl (l.length-i)
       have hz1':=zero_one (z:=.int .u64 0) (k:=1) rfl (by decide) (by decide) (l.length-i)
       have hlen:=hrow.1
       have hcl:Hid (∀ty cc,(Builtin.clear_ #[85] ty #[.slice (some ⟨g,i*1,none⟩) (l.length-i) cc]).run Tryz.prog wr=.ok (.tuple #[]) (wr.setCells g (i*1) (Builtin.zeroCells (.int .u64 0:Value).cells (l.length-i)).toList)):=fun ty cc =>
         run_clearN wr _ _ ty _ Tryz.underlying85 Tryz.zeroValue22 g (i*1) (l.length-i) cc (by omega) _ rfl hz1' (fun t ht=>by
           have hlt:i*1+t<(List.flatMap Un.c (List.filter (fun x=>!q x) l)++List.flatMap Un.c mid).length:=by rw [hlen];omega
           rw [row_cell hrow (List.getElem?_eq_getElem hlt)];rfl) (fun t ht=>row_fro hrow _)
       have HE:Hid ((wr.setCells g (i*1) (Builtin.zeroCells (.int .u64 0:Value).cells (l.length-i)).toList).ownsRow B 22 1 (.slice (some ⟨g,0,none⟩) i cap) (l.filter fun x=>!q x).length ((l.filter fun x=>!q x).flatMap Un.c)∧Ch (fun g'=>(some g:Option Nat)=some g') w (wr.setCells g (i*1) (Builtin.zeroCells (.int .u64 0:Value).cells (l.length-i)).toList)):=by
         have r2:=row_puts hrow (i*1) (Builtin.zeroCells (.int .u64 0:Value).cells (l.length-i)).toList (by rw [hzl,hlen];omega)
         have e5:(List.flatMap Un.c (List.filter (fun x=>!q x) l)++List.flatMap Un.c mid).take (i*1)=List.flatMap Un.c (List.filter (fun x=>!q x) l):=by
           rw [List.take_append_of_le_length (by rw [fm_len Un.k,hKl];exact nlr),List.take_of_length_le (by rw [fm_len Un.k,hKl];exact nlr)]
         rw [e5,List.append_assoc] at r2
         refine ⟨?_,ch_setCells hC g _ _ (fun _=>rfl)⟩
         rw [hKl]
         exact row_cut r2 (by rw [fm_len Un.k,hKl]) (by omega)
       clear HM hrow hC hzl hz1' hlen hmid HQ HR hKl
       have hil:(i:Int)≤(l.length:Int):=by omega
       have hii:(0:Int)≤(i:Int):=by omega
       have hic:¬cap=i:=by omega
       have hlc:(l.length:Int)≤(cap:Int):=by omega
       have hil2:i≤l.length:=by omega
       generalize (Builtin.zeroCells (.int .u64 0:Value).cells (l.length-i)).toList=zz at *
       have hcl2:=hcl.out
       clear hcl
       simp only [Nat.mul_one] at hcl2 HE
       go_wp2
       go_ret
       exact ⟨.slice (some ⟨g,0,none⟩) i cap,rfl,HE.out.1,HE.out.2,rfl⟩

def DlUn (B:Nat) (w:World) (v:Value) (l:List Un) (e:Ending) (w':World):Prop:=∃v',e=.returned v'∧w'.ownsRow B 22 1 v' l.length (l.flatMap Un.c)∧Ch (fun g=>v.ownBlock=some g) w w'∧v'.ownBlock=v.ownBlock
theorem takeUn_any {B : Nat} {w : World} {v : Value} {l : List Un} {kf : Nat} {caps : Array Value} (q : Un → Bool) (h : w.ownsRow B 22 1 v l.length (l.flatMap Un.c)) (hn : l.length ≤ 4611686018427387904) (ek : Ent0 kf) (hq : ∀ x ∈ l, Say (fun g => v.ownBlock = some g) w kf caps #[.int .u64 (x : Int)] (q x)) :
   Calls Tryz.prog 120 #[v,.func (.func kf) #[] caps] w (DlUn B w v (l.filter fun x=>!q x)):=by
 have CD:=delUn_any q h hn ek hq
 obtain ⟨a,cp,hs,-⟩:=row_slice h
 clear h hq ek
 subst hs
 generalize (l.filter fun x=>!q x)=l' at *
 go_enter Tryz.func120,Tryz.ntmps120
 go_wp2_with (go_at_call 171;refine CD.mono ?_;rintro e w1 ⟨v1,rfl,r1,c1,o1⟩;(have H1:Hid (w1.ownsRow B 22 1 v1 l'.length (l'.flatMap Un.c)∧Ch (fun g=>(Value.slice a l.length cp).ownBlock=some g) w w1∧v1.ownBlock=(Value.slice a l.length cp).ownBlock):=⟨r1,c1,o1⟩);clear r1 c1 o1 CD)
 go_ret
 exact ⟨_,rfl,H1.out⟩

theorem missed11_any (tok k:Nat) {w:World} {lb:Nat} (h:w.cell? ⟨lb,1,none⟩=some (.int .u64 (k:Int))):Calls Tryz.prog 121 #[.int .u64 (tok:Int),.pointer (some ⟨lb,0,none⟩)] w fun e w'=>e=.returned (.bool (tok==k))∧Below w.heap.size w w':=by
 have hE:Hid ((tok==k)=((tok:Int)==(k:Int))):=by show _=_;rw [Bool.eq_iff_iff,beq_iff_eq,beq_iff_eq];omega
 go_enter Tryz.func121,Tryz.ntmps121
 go_wp2
 go_ret
 rw [hE.out]
 exact ⟨by simp,brf⟩
theorem missed1_any {w : World} {B b o lb k : Nat} {v : Value} {its : List Nat} (hc : w.cell? ⟨b, o + 6, none⟩ = some v) (hf : w.frozen? ⟨b, o + 6, none⟩ = false) (hl : w.cell? ⟨lb, 1, none⟩ = some (.int .u64 (k : Int))) (row : w.ownsRow B 22 1 v its.length (its.flatMap Un.c)) (hn : its.length ≤ 4611686018427387904) (hoff : ∀ g, v.ownBlock = some g → g ≠ b) (hofl : ∀ g, v.ownBlock = some g → g ≠ lb) :
   Calls Tryz.prog 119 #[.pointer (some ⟨b,o,none⟩),.pointer (some ⟨lb,0,none⟩)] w fun e w'=>e=.returned (.tuple #[])∧Its w b o v (its.filter fun x=>!(x==k)) w':=by
 have hb:b<w.heap.size:=World.block_lt_of_cell? w _ hc
 have ek:Ent0 121:=enters_of Tryz.func121 (by kernel_rfl) rfl
 have CT:Calls Tryz.prog 120 #[v,.func (.func 121) #[] #[.pointer (some ⟨lb,0,none⟩)]] w fun e w1=>∃a n c,e=.returned (.slice a n c)∧((∃u,w1.cell? ⟨b,o+6,none⟩=some u)∧w1.frozen? ⟨b,o+6,none⟩=false)∧Hid (Its w b o v (its.filter fun x=>!(x==k)) (w1.setCell ⟨b,o+6,none⟩ (.slice a n c))):=by
   refine (takeUn_any (B:=0) (caps:=#[.pointer (some ⟨lb,0,none⟩)]) (fun x=>x==k) (row_zero row) hn ek (fun x _ W hW=>missed11_any x k (hW.cell hl (fun e=>hofl lb e rfl)))).mono ?_
   rintro e w1 ⟨v1,rfl,r1,c1,o1⟩
   obtain ⟨a,c,rfl,-⟩:=row_slice r1
   refine ⟨a,_,c,rfl,⟨⟨_,c1.cell hc (fun e=>hoff b e rfl)⟩,?_⟩,_,w1,rfl,fun B' hB' hlow=>row_base r1 (fun g hg=>hlow g (by rw [← o1];exact hg)),c1,fun g hg=>.inl (by rw [← o1];exact hg)⟩
   have:=c1.block b hb (fun e=>hoff b e rfl)
   simpa [World.frozen?,this] using hf
 obtain ⟨a,c,rfl,-⟩:=row_slice row
 clear row hn hoff hofl hf ek hl
 go_enter Tryz.func119,Tryz.ntmps119
 go_wp2_with (go_at_call 120;refine CT.mono ?_;rintro e w1 ⟨a1,n1,c1,rfl,⟨⟨u1,p1⟩,f1⟩,H1⟩;clear CT)
 go_end0
 exact ⟨rfl,H1.out⟩
end Go.Proofs.YtmfempdcpoeicaaGreat.f13
