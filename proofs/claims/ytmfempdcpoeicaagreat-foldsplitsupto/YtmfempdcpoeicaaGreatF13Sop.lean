/-
  Package fold's placeOf, and subOpened.
-/
import Derived.Test.YtmfempdcpoeicaaGreatGStb
import Derived.Test.YtmfempdcpoeicaaGreatGPlb
set_option maxHeartbeats 4000000
set_option maxRecDepth 100000
namespace Go.Proofs.YtmfempdcpoeicaaGreat.f13
open Go.RowKit Go.Shelf Go.Sort
open Go.Lib hiding intOf

def CgSb (w:World) (q:Sb→Bool) (l:List Sb) (R:World→Nat→World→Prop) (w':World):Prop:=match l.findIdx? q with
 | none=>Below w.heap.size w w'
 | some i=>∃W,Below w.heap.size w W∧R W i w'
theorem changeSb_any {X : Nat → Prop} {w : World} {v : Value} {l : List Sb} {kf kb : Nat} {caps capb : Array Value} (q : Sb → Bool) (R : World → Nat → World → Prop) (hv : Rr 6 Sb.c w v l) (hn : l.length ≤ 4611686018427387904) (ek : Ent0 kf) (hq : ∀ x ∈ l, Say X w kf caps #[.agg (Sb.c x).toArray] (q x)) (eb : Ent0 kb)
   (hb:∀(W:World) (i b off cap:Nat),Below w.heap.size w W→i<l.length→v=.slice (some ⟨b,off,none⟩) l.length cap→Calls Tryz.prog kb (#[.pointer (some ⟨b,off+i*6,none⟩)]++capb) W fun e W'=>e=.returned (.tuple #[])∧R W i W') :
   Calls Tryz.prog 93 #[v,.func (.func kf) #[] caps,.func (.func kb) #[] capb] w fun e w'=>e=.returned (.tuple #[])∧CgSb w q l R w':=by
 have CI:=indexSb_any q hv hn ek hq
 have HB:Hid _:=hb
 have hv0:=hv
 obtain ⟨a,cap,rfl,-⟩:=hv
 unfold Ent0 at eb
 clear hq ek hb
 cases hF:l.findIdx? q with
 | none =>
   have e0:fix q l = -1:=by unfold fix;rw [hF]
   rw [e0] at CI
   have hneg:¬(0:Int)≤-1:=by omega
   have HF:Hid _:=hF
   clear hF e0 HB hv0
   go_enter Tryz.func93,Tryz.ntmps93
   go_wp2_with (go_at_call 152;refine CI.mono ?_;rintro e w1 ⟨rfl,b1⟩;(have B1:Hid (Below w.heap.size w w1):=b1);clear b1 CI)
   go_end0
   refine ⟨rfl,?_⟩
   unfold CgSb
   rw [HF.out]
   exact B1.out
 | some i =>
   have e0:fix q l=(i:Int):=by unfold fix;rw [hF]
   have hi:=(List.findIdx?_eq_some_iff_getElem.1 hF).1
   obtain ⟨b,off,cap',hsl,-,-,-⟩:=hv0.at hi
   obtain ⟨rfl,rfl⟩:a=some ⟨b,off,none⟩∧cap=cap':=by injection hsl with e1 _ e2;exact ⟨e1,e2⟩
   rw [e0] at CI
   have hi0:(0:Int)≤(i:Int):=by omega
   have hil:(i:Int)<(l.length:Int):=by omega
   have HF:Hid _:=hF
   clear hF e0 hsl hv0
   go_enter Tryz.func93,Tryz.ntmps93
   go_wp2_with (go_at_call 152;refine CI.mono ?_;rintro e w1 ⟨rfl,b1⟩;(have B1:Hid (Below w.heap.size w w1):=b1);(have CB:=HB.out w1 i b off cap b1 hi rfl);clear b1 CI HB)
   refine CB.mono ?_
   rintro e w2 ⟨rfl,hR⟩
   have HR:Hid _:=hR
   clear hR CB
   go_wp2
   go_end0
   refine ⟨rfl,?_⟩
   unfold CgSb
   rw [HF.out]
   exact ⟨w1,B1.out,HR.out⟩

theorem Sx.inSb {B:Nat} {w w2:World} {sb:Nat} {s:St} {l:List Sb} (h:Sx B w sb s) (hp:w2.ownsRow B 75 6 s.vSb l.length (l.flatMap Sb.c)) (hc:Ch (fun g=>s.vSb.ownBlock=some g) w w2):Sx B w2 sb { s with subs:=l }:=by
 have h2:=Own.perm (M:=Sb.rw s.vSb s.subs::(bx sb s.c::(De.rw s.vDe s.procs::In.rw s.vIn s.insts::Tk.rw s.vTk s.tokens::Jb.rw s.vJb s.jobs::Tm.rw s.vTm s.timers::Kp.rw s.vKp s.kept::Ls.rw s.vLs s.listed::Ms.rw s.vMs s.msgs::s.inner))) h (perm_ac fun z=>by
   simp only [St.rows,St.main,List.count_append,List.count_cons,List.count_nil,Nat.zero_add]
   ac_rfl)
 have h3:=h2.turn (r':=Sb.rw s.vSb l) hc hp (fun g hg=>.inl hg)
 exact h3.perm (M:=bx sb s.c::(De.rw s.vDe s.procs::In.rw s.vIn s.insts::Tk.rw s.vTk s.tokens::Jb.rw s.vJb s.jobs::Tm.rw s.vTm s.timers::Sb.rw s.vSb l::Kp.rw s.vKp s.kept::Ls.rw s.vLs s.listed::Ms.rw s.vMs s.msgs::s.inner)) (perm_ac fun z=>by
   simp only [List.count_cons]
   ac_rfl)

theorem placeOf_any (w:World) (r0 r1 r3 r7 r8:Int) (r2 r4 r5 r6:Nat) (r9 r10 r11:List UInt8) (ra:Option Addr) (rn rp:Nat):Calls Tryz.prog 95 #[.agg #[.int .i64 r0,.int .i64 r1,.int .u64 (r2:Int),.int .i64 r3,.int .u64 (r4:Int),.int .u64 (r5:Int),.int .u64 (r6:Int),.int .i64 r7,.int .i64 r8,.string (S r9),.string (S r10),.string (S r11),.slice ra rn rp]] w fun e w'=>e=.returned (.agg #[.int .u64 (r4:Int),.int .i64 r7])∧Below w.heap.size w w':=by
 have hb:Below w.heap.size w ((w.alloc (.cells #[.int .i64 r0,.int .i64 r1,.int .u64 (r2:Int),.int .i64 r3,.int .u64 (r4:Int),.int .u64 (r5:Int),.int .u64 (r6:Int),.int .i64 r7,.int .i64 r8,.string (S r9),.string (S r10),.string (S r11),.slice ra rn rp] 39)).alloc (.cells #[.int .u64 (r4:Int),.int .i64 r7] 135)):=((Below.refl _ w).alloc nlr _).alloc (by simp) _
 have hg:=heap_alloc_new (w.alloc (.cells #[.int .i64 r0,.int .i64 r1,.int .u64 (r2:Int),.int .i64 r3,.int .u64 (r4:Int),.int .u64 (r5:Int),.int .u64 (r6:Int),.int .i64 r7,.int .i64 r8,.string (S r9),.string (S r10),.string (S r11),.slice ra rn rp] 39)) (.cells #[.int .u64 (r4:Int),.int .i64 r7] 135)
 rw [World.size_alloc] at hg
 have HB:Hid _:=hb
 have HG:Hid _:=hg
 clear hb hg
 go_enter Tryz.func95,Tryz.ntmps95
 go_wp2
 refine bodyPost_ret (results_cell_row rfl _ _ (w.heap.size+1) 135 _ (0,0) _ rfl HG.out Tryz.underlying135 rfl sizeP) rfl ?_
 exact ⟨rfl,HB.out⟩

theorem subOpened1_any {w : World} {b o : Nat} (hc5 : ∃ u, w.cell? ⟨b, o + 5, none⟩ = some u) (hf5 : w.frozen? ⟨b, o + 5, none⟩ = false) :
   Calls Tryz.prog 96 #[.pointer (some ⟨b,o,none⟩)] w fun e w'=>e=.returned (.tuple #[])∧(w'=(w.setCell ⟨b,o+5,none⟩ (.bool true))):=by
 obtain ⟨u5,hc5⟩:=hc5
 go_enter Tryz.func96,Tryz.ntmps96
 go_wp2
 go_end0
 exact ⟨rfl,by simp⟩

def eOpen (s:St) (r:Rc):St:={ s with subs:=chgL (fun x=>x.kk==(r.k1,r.n)) (fun x=>{ x with opn:=true }) s.subs }
theorem subOpened_any {B : Nat} {w : World} {sb : Nat} {s : St} {r : Rc} (h : Sx B w sb s) (hB : B ≤ w.heap.size) (hn : s.subs.length ≤ 4611686018427387904) (hr : Rr 4 Vr.c w r.vv r.v) :
   Calls Tryz.prog 51 #[.pointer (some ⟨sb,0,none⟩),.agg r.cs.toArray] w fun e w'=>e=.returned (.tuple #[])∧Eff B w sb (eOpen s.e r) w':=by
 obtain ⟨ra,rp,hra,-⟩:=id hr
 obtain ⟨r0,r1,r2,r3,r4,r5,r6,r7,r8,r9,r10,r11,rvv,rv⟩:=r
 simp only at hra hr
 subst hra
 clear hr
 simp only [Rc.cs]
 generalize hrn:rv.length=rn at *
 have hbw:Below w.heap.size w (w.alloc (.cells #[.int .i64 r0,.int .i64 r1,.int .u64 (r2:Int),.int .i64 r3,.int .u64 (r4:Int),.int .u64 (r5:Int),.int .u64 (r6:Int),.int .i64 r7,.int .i64 r8,.string (S r9),.string (S r10),.string (S r11),.slice ra rn rp] 39)):=(Below.refl _ w).alloc nlr _
 have ekO:Ent0 155:=enters_of Tryz.func155 (by kernel_rfl) rfl
 have ekB:Ent0 96:=enters_of Tryz.func96 (by kernel_rfl) rfl
 have hcr:∀(j:Nat) (u:Value),([.int .i64 r0,.int .i64 r1,.int .u64 (r2:Int),.int .i64 r3,.int .u64 (r4:Int),.int .u64 (r5:Int),.int .u64 (r6:Int),.int .i64 r7,.int .i64 r8,.string (S r9),.string (S r10),.string (S r11),.slice ra rn rp]:List Value)[j]?=some u→(w.alloc (.cells #[.int .i64 r0,.int .i64 r1,.int .u64 (r2:Int),.int .i64 r3,.int .u64 (r4:Int),.int .u64 (r5:Int),.int .u64 (r6:Int),.int .i64 r7,.int .i64 r8,.string (S r9),.string (S r10),.string (S r11),.slice ra rn rp] 39)).cell? ⟨w.heap.size,j,none⟩=some u:=fun j u hj=>by
   rw [World.cell?_alloc_new];simpa using hj
 have HA:Hid (∀w1 caps,Below (w.alloc (.cells #[.int .i64 r0,.int .i64 r1,.int .u64 (r2:Int),.int .i64 r3,.int .u64 (r4:Int),.int .u64 (r5:Int),.int .u64 (r6:Int),.int .i64 r7,.int .i64 r8,.string (S r9),.string (S r10),.string (S r11),.slice ra rn rp] 39)).heap.size (w.alloc (.cells #[.int .i64 r0,.int .i64 r1,.int .u64 (r2:Int),.int .i64 r3,.int .u64 (r4:Int),.int .u64 (r5:Int),.int .u64 (r6:Int),.int .i64 r7,.int .i64 r8,.string (S r9),.string (S r10),.string (S r11),.slice ra rn rp] 39)) w1→(∀x:Sb,Say (fun _=>False) w1 155 caps #[.agg (Sb.c x).toArray] (x.kk==(r4,r7)))→Calls Tryz.prog 93 #[s.vSb,.func (.func 155) #[] caps,.func (.func 96) #[] #[]] w1 fun e w'=>e=.returned (.tuple #[])∧Eff B w sb (eOpen s.e ⟨r0,r1,r2,r3,r4,r5,r6,r7,r8,r9,r10,r11,.slice ra rn rp,rv⟩) w'):=by
   intro w1 caps hb1 hsay
   have hb1w:Below w.heap.size w w1:=bel_of hbw hb1 nlr
   have hS1:=h.up hb1w
   have hlow:∀g,s.vSb.ownBlock=some g→g<w.heap.size:=fun g hg=>(h.rSb.lt g hg).2
   have hcell:∀(W:World) (i b off cap:Nat),Below w1.heap.size w1 W→i<s.subs.length→s.vSb=.slice (some ⟨b,off,none⟩) s.subs.length cap→off=0∧W.ownsRow B 75 6 (.slice (some ⟨b,0,none⟩) s.subs.length cap) s.subs.length (s.subs.flatMap Sb.c)∧∀n,n<6→(∃u,W.cell? ⟨b,off+i*6+n,none⟩=some u)∧W.frozen? ⟨b,off+i*6+n,none⟩=false:=by
     intro W i b off cap hW hi hv
     have hrow:=(hS1.up hW).rSb
     rw [hv] at hrow
     obtain ⟨g',c',e',-⟩:=row_any hrow (by omega)
     injection e' with e1 _ e2
     injection e1 with e1
     injection e1 with e3 e4
     subst e3 e4 e2
     refine ⟨rfl,hrow,fun n hn=>⟨⟨(Sb.c s.subs[i])[n]'(by rw [Sb.k];exact hn),?_⟩,row_fro hrow _⟩⟩
     rw [Nat.zero_add]
     refine row_cell hrow ?_
     rw [fm_get Sb.k _ i n hn,List.getElem?_eq_getElem hi]
     exact List.getElem?_eq_getElem _
   refine (changeSb_any (X:=fun _=>False) (fun x=>x.kk==(r4,r7)) (fun W i W'=>∀b off cap,s.vSb=.slice (some ⟨b,off,none⟩) s.subs.length cap→(W'=(W.setCell ⟨b,off+i*6+5,none⟩ (.bool true)))) (Rr.row Sb.k hS1.rSb) hn ekO (fun x _=>hsay x) ekB ?_).mono ?_
   · intro W i b off cap hW hi hv
     obtain ⟨-,-,hc⟩:=hcell W i b off cap hW hi hv
     have hWR:Below (w.alloc (.cells #[.int .i64 r0,.int .i64 r1,.int .u64 (r2:Int),.int .i64 r3,.int .u64 (r4:Int),.int .u64 (r5:Int),.int .u64 (r6:Int),.int .i64 r7,.int .i64 r8,.string (S r9),.string (S r10),.string (S r11),.slice ra rn rp] 39)).heap.size (w.alloc (.cells #[.int .i64 r0,.int .i64 r1,.int .u64 (r2:Int),.int .i64 r3,.int .u64 (r4:Int),.int .u64 (r5:Int),.int .u64 (r6:Int),.int .i64 r7,.int .i64 r8,.string (S r9),.string (S r10),.string (S r11),.slice ra rn rp] 39)) W:=bel_of hb1 hW nlr
     refine (subOpened1_any (w:=W) (b:=b) (o:=off+i*6) (hc 5 (by omega)).1 (hc 5 (by omega)).2).mono ?_
     rintro e W' ⟨rfl,hR⟩
     refine ⟨rfl,fun b' off' cap' hv'=>?_⟩
     rw [hv] at hv'
     injection hv' with e1 _ _
     injection e1 with e1
     injection e1 with e3 e4
     subst e3 e4
     exact hR
   · rintro e w' ⟨rfl,hC⟩
     refine ⟨rfl,?_⟩
     unfold CgSb at hC
     cases hF:s.subs.findIdx? (fun x=>x.kk==(r4,r7)) with
     | none =>
       rw [hF] at hC
       refine ⟨s,hS1.up hC,?_,(hb1w.mono hB).trans (hC.mono (Nat.le_trans hB hb1w.size))⟩
       have he9:eOpen s.e ⟨r0,r1,r2,r3,r4,r5,r6,r7,r8,r9,r10,r11,.slice ra rn rp,rv⟩={ s.e with subs:=chgL (fun x=>x.kk==(r4,r7)) (fun x=>{ x with opn:=true }) s.subs }:=rfl
       rw [he9,chgL_none hF]
       rfl
     | some i =>
       rw [hF] at hC
       obtain ⟨W,hW,hR⟩:=hC
       have hi:=(List.findIdx?_eq_some_iff_getElem.1 hF).1
       obtain ⟨g0,cap0,hv0,-⟩:=row_any (hS1.up hW).rSb (by omega)
       obtain ⟨-,hrow,-⟩:=hcell W i g0 0 cap0 hW hi hv0
       have hwR:=hR g0 0 cap0 hv0
       simp only [Nat.zero_add] at hwR
       have hfin:w'.ownsRow B 75 6 s.vSb s.subs.length ((s.subs.set i { s.subs[i] with opn:=true }).flatMap Sb.c)∧Ch (fun b=>s.vSb.ownBlock=some b) W w':=by
         rw [hv0]
         have hl:i<s.subs.length:=hi
         subst hwR
         refine ⟨?_,((Ch.refl (fun b=>(some g0:Option Nat)=some b) W).setCell ⟨g0,i*6+5,none⟩ (.bool true) (fun _=>rfl))⟩
         have:=(row_put hrow (i*6+5) (.bool true))
         rw [fm_set Sb.k s.subs i 5 hl (by omega) { s.subs[i] with opn:=true } (.bool true) rfl] at this
         exact this
       have hS2:=(hS1.up hW).inSb (l:=s.subs.set i { s.subs[i] with opn:=true }) (by rw [List.length_set];exact hfin.1) hfin.2
       refine ⟨_,hS2,?_,?_⟩
       · have he9:eOpen s.e ⟨r0,r1,r2,r3,r4,r5,r6,r7,r8,r9,r10,r11,.slice ra rn rp,rv⟩={ s.e with subs:=chgL (fun x=>x.kk==(r4,r7)) (fun x=>{ x with opn:=true }) s.subs }:=rfl
         rw [he9,chgL_some hF hi]
         rfl
       · have hb2:Below B w W:=(hb1w.mono hB).trans (hW.mono (Nat.le_trans hB hb1w.size))
         exact hb2.trans (Own.ge hfin.2 (Nat.le_trans hB (Nat.le_trans hb1w.size hW.size)) (fun b hb=>((hS1.up hW).rSb.lt b hb).1))
 obtain ⟨aI,cI,hsI,-⟩:=row_slice h.rSb
 have HS:Hid (∀W,Below (w.alloc (.cells #[.int .i64 r0,.int .i64 r1,.int .u64 (r2:Int),.int .i64 r3,.int .u64 (r4:Int),.int .u64 (r5:Int),.int .u64 (r6:Int),.int .i64 r7,.int .i64 r8,.string (S r9),.string (S r10),.string (S r11),.slice ra rn rp] 39)).heap.size (w.alloc (.cells #[.int .i64 r0,.int .i64 r1,.int .u64 (r2:Int),.int .i64 r3,.int .u64 (r4:Int),.int .u64 (r5:Int),.int .u64 (r6:Int),.int .i64 r7,.int .i64 r8,.string (S r9),.string (S r10),.string (S r11),.slice ra rn rp] 39)) W→W.cell? ⟨sb,8,none⟩=some s.vSb∧W.cell? ⟨w.heap.size,0,none⟩=some (.int .i64 r0)∧W.cell? ⟨w.heap.size,1,none⟩=some (.int .i64 r1)∧W.cell? ⟨w.heap.size,2,none⟩=some (.int .u64 (r2:Int))∧W.cell? ⟨w.heap.size,3,none⟩=some (.int .i64 r3)∧W.cell? ⟨w.heap.size,4,none⟩=some (.int .u64 (r4:Int))∧W.cell? ⟨w.heap.size,5,none⟩=some (.int .u64 (r5:Int))∧W.cell? ⟨w.heap.size,6,none⟩=some (.int .u64 (r6:Int))∧W.cell? ⟨w.heap.size,7,none⟩=some (.int .i64 r7)∧W.cell? ⟨w.heap.size,8,none⟩=some (.int .i64 r8)∧W.cell? ⟨w.heap.size,9,none⟩=some (.string (S r9))∧W.cell? ⟨w.heap.size,10,none⟩=some (.string (S r10))∧W.cell? ⟨w.heap.size,11,none⟩=some (.string (S r11))∧W.cell? ⟨w.heap.size,12,none⟩=some (.slice ra rn rp)):=fun W hW=>⟨(h.up (bel_of hbw hW nlr)).cell (j:=8) rfl,(hW.cell (p:=⟨w.heap.size,0,none⟩) (by simp)).trans (hcr 0 _ rfl),(hW.cell (p:=⟨w.heap.size,1,none⟩) (by simp)).trans (hcr 1 _ rfl),(hW.cell (p:=⟨w.heap.size,2,none⟩) (by simp)).trans (hcr 2 _ rfl),(hW.cell (p:=⟨w.heap.size,3,none⟩) (by simp)).trans (hcr 3 _ rfl),(hW.cell (p:=⟨w.heap.size,4,none⟩) (by simp)).trans (hcr 4 _ rfl),(hW.cell (p:=⟨w.heap.size,5,none⟩) (by simp)).trans (hcr 5 _ rfl),(hW.cell (p:=⟨w.heap.size,6,none⟩) (by simp)).trans (hcr 6 _ rfl),(hW.cell (p:=⟨w.heap.size,7,none⟩) (by simp)).trans (hcr 7 _ rfl),(hW.cell (p:=⟨w.heap.size,8,none⟩) (by simp)).trans (hcr 8 _ rfl),(hW.cell (p:=⟨w.heap.size,9,none⟩) (by simp)).trans (hcr 9 _ rfl),(hW.cell (p:=⟨w.heap.size,10,none⟩) (by simp)).trans (hcr 10 _ rfl),(hW.cell (p:=⟨w.heap.size,11,none⟩) (by simp)).trans (hcr 11 _ rfl),(hW.cell (p:=⟨w.heap.size,12,none⟩) (by simp)).trans (hcr 12 _ rfl)⟩
 have CO:=fun W=>ofSb_any (r4,r7) W
 rw [hsI] at HA HS
 clear h hn ekO ekB hsI hB
 obtain ⟨m5,b0,b1,b2,b3,b4,b5,b6,b7,b8,b9,b10,b11,b12⟩:=HS.out _ brf
 have CP:=fun W=>placeOf_any W r0 r1 r3 r7 r8 r2 r4 r5 r6 r9 r10 r11 ra rn rp
 simp only [kP] at CO
 clear hcr
 go_enter Tryz.func51,Tryz.ntmps51
 go_wp2
 generalize (w.alloc (.cells #[.int .i64 r0,.int .i64 r1,.int .u64 (r2:Int),.int .i64 r3,.int .u64 (r4:Int),.int .u64 (r5:Int),.int .u64 (r6:Int),.int .i64 r7,.int .i64 r8,.string (S r9),.string (S r10),.string (S r11),.slice ra rn rp] 39))=W1 at *
 go_region_with (first
   | (go_at_call 95;refine (CP _).mono ?_;rintro e w0 ⟨rfl,hb0⟩;(have hX0:Below W1.heap.size W1 w0:=(Below.refl _ W1).drew.trans (hb0.mono nlr));obtain ⟨n6,-⟩:=HS.out w0 hX0;clear hb0 CP)
   | (go_at_call 94;refine (CO _).mono ?_;rintro e w1 ⟨caps,rfl,hsay,hb1⟩;(have hX:Below W1.heap.size W1 w1:=bel_of hX0 hb1 nlr);obtain ⟨n5,-⟩:=HS.out w1 hX;(have CA:=HA.out w1 caps hX (fun x=>hsay (fun _=>False) (fun _ e=>e.elim) x));clear hsay hb1 CO HA)
   | (go_at_call 93;refine CA.mono ?_;rintro e w2 ⟨rfl,hE⟩;(have K1:Hid _:=hE);clear hE CA))
 all_goals
   go_wp2
   go_end0
   exact ⟨rfl,K1.out⟩
end Go.Proofs.YtmfempdcpoeicaaGreat.f13
