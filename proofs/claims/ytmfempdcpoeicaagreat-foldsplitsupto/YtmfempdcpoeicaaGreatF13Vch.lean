/-
  Package fold's varsChanged.
-/
import Derived.Test.YtmfempdcpoeicaaGreatGStb
set_option maxHeartbeats 4000000
set_option maxRecDepth 100000
namespace Go.Proofs.YtmfempdcpoeicaaGreat.f13
open Go.RowKit Go.Shelf Go.Sort
open Go.Lib hiding intOf

def CgIn (w:World) (q:In→Bool) (l:List In) (R:World→Nat→World→Prop) (w':World):Prop:=match l.findIdx? q with
 | none=>Below w.heap.size w w'
 | some i=>∃W,Below w.heap.size w W∧R W i w'
theorem changeIn_any {X : Nat → Prop} {w : World} {v : Value} {l : List In} {kf kb : Nat} {caps capb : Array Value} (q : In → Bool) (R : World → Nat → World → Prop) (hv : Rr 3 In.c w v l) (hn : l.length ≤ 4611686018427387904) (ek : Ent0 kf) (hq : ∀ x ∈ l, Say X w kf caps #[.agg (In.c x).toArray] (q x)) (eb : Ent0 kb)
   (hb:∀(W:World) (i b off cap:Nat),Below w.heap.size w W→i<l.length→v=.slice (some ⟨b,off,none⟩) l.length cap→Calls Tryz.prog kb (#[.pointer (some ⟨b,off+i*3,none⟩)]++capb) W fun e W'=>e=.returned (.tuple #[])∧R W i W') :
   Calls Tryz.prog 85 #[v,.func (.func kf) #[] caps,.func (.func kb) #[] capb] w fun e w'=>e=.returned (.tuple #[])∧CgIn w q l R w':=by
 have CI:=indexIn_any q hv hn ek hq
 have HB:Hid _:=hb
 have hv0:=hv
 obtain ⟨a,cap,rfl,-⟩:=hv
 unfold Ent0 at eb
 clear hq ek hb
 cases hF:l.findIdx? q with
 | none =>
   have e0:fix q l = -1:=by unfold fix;rw [hF]
   rw [e0] at CI
   have hneg:¬(0:Int)≤-1:=by omega
   have HF:Hid _:=hF
   clear hF e0 HB hv0
   go_enter Tryz.func85,Tryz.ntmps85
   go_wp2_with (go_at_call 127;refine CI.mono ?_;rintro e w1 ⟨rfl,b1⟩;(have B1:Hid (Below w.heap.size w w1):=b1);clear b1 CI)
   go_end0
   refine ⟨rfl,?_⟩
   unfold CgIn
   rw [HF.out]
   exact B1.out
 | some i =>
   have e0:fix q l=(i:Int):=by unfold fix;rw [hF]
   have hi:=(List.findIdx?_eq_some_iff_getElem.1 hF).1
   obtain ⟨b,off,cap',hsl,-,-,-⟩:=hv0.at hi
   obtain ⟨rfl,rfl⟩:a=some ⟨b,off,none⟩∧cap=cap':=by injection hsl with e1 _ e2;exact ⟨e1,e2⟩
   rw [e0] at CI
   have hi0:(0:Int)≤(i:Int):=by omega
   have hil:(i:Int)<(l.length:Int):=by omega
   have HF:Hid _:=hF
   clear hF e0 hsl hv0
   go_enter Tryz.func85,Tryz.ntmps85
   go_wp2_with (go_at_call 127;refine CI.mono ?_;rintro e w1 ⟨rfl,b1⟩;(have B1:Hid (Below w.heap.size w w1):=b1);(have CB:=HB.out w1 i b off cap b1 hi rfl);clear b1 CI HB)
   refine CB.mono ?_
   rintro e w2 ⟨rfl,hR⟩
   have HR:Hid _:=hR
   clear hR CB
   go_wp2
   go_end0
   refine ⟨rfl,?_⟩
   unfold CgIn
   rw [HF.out]
   exact ⟨w1,B1.out,HR.out⟩

theorem set_count {α:Type} [DecidableEq Rw] (l:List α) (i:Nat) (y:α) (hi:i<l.length) (f:α→Rw) (z:Rw):((l.set i y).map f).count z≤(f y::l.map f).count z:=by
 rw [List.set_eq_take_append_cons_drop,if_pos hi]
 have e:l=l.take i++l[i]::l.drop (i+1):=by rw [List.getElem_cons_drop,List.take_append_drop]
 have e2:(l.map f).count z=((l.take i++l[i]::l.drop (i+1)).map f).count z:=by rw [← e]
 rw [List.count_cons,e2]
 simp only [List.map_append,List.map_cons,List.count_append,List.count_cons]
 omega
theorem Sx.inIn {B : Nat} {w w1 : World} {sb g cap i : Nat} {s : St} {v' : Value} {l : List Vr} (h : Sx B w sb s) (hB : B ≤ w.heap.size) (hi : i < s.insts.length) (hv : s.vIn = .slice (some ⟨g, 0, none⟩) s.insts.length cap) (hb : Below w.heap.size w w1) (hr : w1.ownsRow w.heap.size 64 4 v' l.length (l.flatMap Vr.c)) :
   Sx B (w1.setCell ⟨g,i*3+2,none⟩ v') sb { s with insts:=s.insts.set i { s.insts[i] with vv:=v',vars:=l } }∧Below B w (w1.setCell ⟨g,i*3+2,none⟩ v'):=by
 have hrow:=(h.up hb).rIn
 have hlow:=hrow.lt g (by rw [hv];rfl)
 rw [hv] at hrow
 have h1:=Own.add (r:=In.r { s.insts[i] with vv:=v',vars:=l }) h hb hr hB
 have h2:=h1.perm (M:=In.rw s.vIn s.insts::(In.r { s.insts[i] with vv:=v',vars:=l }::bx sb s.c::(De.rw s.vDe s.procs::Tk.rw s.vTk s.tokens::Jb.rw s.vJb s.jobs::Tm.rw s.vTm s.timers::Sb.rw s.vSb s.subs::Kp.rw s.vKp s.kept::Ls.rw s.vLs s.listed::Ms.rw s.vMs s.msgs::s.inner))) (perm_ac fun z=>by
   simp only [St.rows,St.main,List.count_append,List.count_cons,List.count_nil,Nat.zero_add]
   ac_rfl)
 have hp:=row_put hrow (i*3+2) v'
 rw [fm_set In.k s.insts i 2 hi (by omega) { s.insts[i] with vv:=v',vars:=l } v' rfl,← hv] at hp
 have h3:=h2.turn (r':=In.rw s.vIn (s.insts.set i { s.insts[i] with vv:=v',vars:=l })) (w':=w1.setCell ⟨g,i*3+2,none⟩ v') ((Ch.refl (fun b=>s.vIn.ownBlock=some b) w1).setCell ⟨g,i*3+2,none⟩ v' (fun _=>by show s.vIn.ownBlock=some g;rw [hv];rfl)) (by unfold Rw.ok In.rw;rw [List.length_set];exact hp) (fun b hb=>.inl hb)
 have h4:=h3.of_count (M:=bx sb s.c::(De.rw s.vDe s.procs::In.rw s.vIn (s.insts.set i { s.insts[i] with vv:=v',vars:=l })::Tk.rw s.vTk s.tokens::Jb.rw s.vJb s.jobs::Tm.rw s.vTm s.timers::Sb.rw s.vSb s.subs::Kp.rw s.vKp s.kept::Ls.rw s.vLs s.listed::Ms.rw s.vMs s.msgs::((s.insts.set i { s.insts[i] with vv:=v',vars:=l }).map In.r++(s.listed.map Ls.r++(s.msgs.map Ms.r++s.msgs.map Ms.q))))) (fun z=>by
   have:=set_count s.insts i { s.insts[i] with vv:=v',vars:=l } hi In.r z
   simp only [St.inner,List.count_append,List.count_cons] at this ⊢
   omega)
 exact ⟨h4,(hb.mono hB).trans (((Ch.refl (fun b=>b=g) w1).setCell ⟨g,i*3+2,none⟩ v' (fun _=>rfl)).below (Nat.le_trans hB hb.size) (fun b hb e=>by omega))⟩
theorem chgL_map {α:Type} (q:α→Bool) (f f' e:α→α) (hq:∀x,q (e x)=q x) (hf:∀x,e (f x)=f' (e x)):∀l:List α,(chgL q f l).map e=chgL q f' (l.map e)
 | []=>rfl
 | x::t=>by
   unfold chgL
   rw [List.map_cons]
   simp only [hq]
   cases q x with
   | true=>simp [hf]
   | false=>simp [chgL_map q f f' e hq hf t]
theorem varsChanged1_any {w : World} {b o rb : Nat} {v u : Value} {l : List Vr} (h0 : w.cell? ⟨rb, 12, none⟩ = some v) (hv : Rr 4 Vr.c w v l) (hn : l.length * 48 ≤ 211106232528000) (hc : w.cell? ⟨b, o + 2, none⟩ = some u) (hf : w.frozen? ⟨b, o + 2, none⟩ = false) :
   Calls Tryz.prog 87 #[.pointer (some ⟨b,o,none⟩),.pointer (some ⟨rb,0,none⟩)] w fun e w'=>e=.returned (.tuple #[])∧∃v' w1,w'=w1.setCell ⟨b,o+2,none⟩ v'∧w1.ownsRow w.heap.size 64 4 v' l.length (l.flatMap Vr.c)∧Below w.heap.size w w1:=by
 have CF:=freshVr_any hv hn
 have hb:=World.block_lt_of_cell? w _ hc
 obtain ⟨a,cap,rfl,-⟩:=id hv
 clear hv
 go_enter Tryz.func87,Tryz.ntmps87
 go_wp2_with (go_at_call 14;refine CF.mono ?_;rintro e w1 ⟨v1,rfl,r1,b1⟩;obtain ⟨a1,c1,rfl,-⟩:=row_slice r1;have m1:=(b1.cell (p:=⟨b,o+2,none⟩) hb).trans hc;have f1:=(b1.frozen (p:=⟨b,o+2,none⟩) hb).trans hf;(have H1:Hid (w1.ownsRow w.heap.size 64 4 (.slice a1 l.length c1) l.length (l.flatMap Vr.c)∧Below w.heap.size w w1):=⟨r1,b1⟩);clear b1 r1 CF h0 hf hc)
 go_end0
 exact ⟨rfl,_,w1,rfl,H1.out⟩
def eVars (s:St) (r:Rc):St:={ s with insts:=chgL (fun x=>x.kk==r.k1) (fun x=>{ x with vars:=r.v }) s.insts }
theorem varsChanged_any {B : Nat} {w : World} {sb : Nat} {s : St} {r : Rc} (h : Sx B w sb s) (hB : B ≤ w.heap.size) (hn : s.insts.length ≤ 4611686018427387904) (hr : Rr 4 Vr.c w r.vv r.v) (hvn : r.v.length * 48 ≤ 211106232528000) :
   Calls Tryz.prog 48 #[.pointer (some ⟨sb,0,none⟩),.agg r.cs.toArray] w fun e w'=>e=.returned (.tuple #[])∧Eff B w sb (eVars s.e r) w':=by
 obtain ⟨ra,rp,hra,-⟩:=id hr
 obtain ⟨r0,r1,r2,r3,r4,r5,r6,r7,r8,r9,r10,r11,rvv,rv⟩:=r
 simp only at hra hr hvn
 subst hra
 simp only [Rc.cs]
 have hr':=hr
 generalize hrn:rv.length=rn at *
 have hbw:Below w.heap.size w (w.alloc (.cells #[.int .i64 r0,.int .i64 r1,.int .u64 (r2:Int),.int .i64 r3,.int .u64 (r4:Int),.int .u64 (r5:Int),.int .u64 (r6:Int),.int .i64 r7,.int .i64 r8,.string (S r9),.string (S r10),.string (S r11),.slice ra rn rp] 39)):=(Below.refl _ w).alloc nlr _
 have ekO:Ent0 144:=enters_of Tryz.func144 (by kernel_rfl) rfl
 have ekB:Ent0 87:=enters_of Tryz.func87 (by kernel_rfl) rfl
 have hcr:∀(j:Nat) (u:Value),([.int .i64 r0,.int .i64 r1,.int .u64 (r2:Int),.int .i64 r3,.int .u64 (r4:Int),.int .u64 (r5:Int),.int .u64 (r6:Int),.int .i64 r7,.int .i64 r8,.string (S r9),.string (S r10),.string (S r11),.slice ra rn rp]:List Value)[j]?=some u→(w.alloc (.cells #[.int .i64 r0,.int .i64 r1,.int .u64 (r2:Int),.int .i64 r3,.int .u64 (r4:Int),.int .u64 (r5:Int),.int .u64 (r6:Int),.int .i64 r7,.int .i64 r8,.string (S r9),.string (S r10),.string (S r11),.slice ra rn rp] 39)).cell? ⟨w.heap.size,j,none⟩=some u:=fun j u hj=>by
   rw [World.cell?_alloc_new];simpa using hj
 have hsv:=Own.sv (Own.sub h (List.sublist_cons_self _ _))
 have HA:Hid (∀w1 caps,Below (w.alloc (.cells #[.int .i64 r0,.int .i64 r1,.int .u64 (r2:Int),.int .i64 r3,.int .u64 (r4:Int),.int .u64 (r5:Int),.int .u64 (r6:Int),.int .i64 r7,.int .i64 r8,.string (S r9),.string (S r10),.string (S r11),.slice ra rn rp] 39)).heap.size (w.alloc (.cells #[.int .i64 r0,.int .i64 r1,.int .u64 (r2:Int),.int .i64 r3,.int .u64 (r4:Int),.int .u64 (r5:Int),.int .u64 (r6:Int),.int .i64 r7,.int .i64 r8,.string (S r9),.string (S r10),.string (S r11),.slice ra rn rp] 39)) w1→(∀x:In,x.vv.oneCell'=true→Say (fun _=>False) w1 144 caps #[.agg (In.c x).toArray] (x.kk==r4))→Calls Tryz.prog 85 #[s.vIn,.func (.func 144) #[] caps,.func (.func 87) #[] #[.pointer (some ⟨w.heap.size,0,none⟩)]] w1 fun e w'=>e=.returned (.tuple #[])∧Eff B w sb (eVars s.e ⟨r0,r1,r2,r3,r4,r5,r6,r7,r8,r9,r10,r11,.slice ra rn rp,rv⟩) w'):=by
   intro w1 caps hb1 hsay
   have hb1w:Below w.heap.size w w1:=bel_of hbw hb1 nlr
   have hS1:=h.up hb1w
   refine (changeIn_any (X:=fun _=>False) (fun x=>x.kk==r4) (fun W i W'=>∀b off cap,s.vIn=.slice (some ⟨b,off,none⟩) s.insts.length cap→∃v' w3,W'=w3.setCell ⟨b,off+i*3+2,none⟩ v'∧w3.ownsRow W.heap.size 64 4 v' rv.length (rv.flatMap Vr.c)∧Below W.heap.size W w3) (Rr.row In.k hS1.rIn) hn ekO (fun x hx=>hsay x (hsv.iIn x hx).oneCell) ekB ?_).mono ?_
   · intro W i b off cap hW hi hv
     have hWR:Below (w.alloc (.cells #[.int .i64 r0,.int .i64 r1,.int .u64 (r2:Int),.int .i64 r3,.int .u64 (r4:Int),.int .u64 (r5:Int),.int .u64 (r6:Int),.int .i64 r7,.int .i64 r8,.string (S r9),.string (S r10),.string (S r11),.slice ra rn rp] 39)).heap.size (w.alloc (.cells #[.int .i64 r0,.int .i64 r1,.int .u64 (r2:Int),.int .i64 r3,.int .u64 (r4:Int),.int .u64 (r5:Int),.int .u64 (r6:Int),.int .i64 r7,.int .i64 r8,.string (S r9),.string (S r10),.string (S r11),.slice ra rn rp] 39)) W:=bel_of hb1 hW nlr
     have hrow:=(hS1.up hW).rIn
     rw [hv] at hrow
     obtain ⟨g',c',e',-⟩:=row_any hrow (by omega)
     injection e' with e1 _ e2
     injection e1 with e1
     injection e1 with e3 e4
     subst e3 e4 e2
     have hcell:W.cell? ⟨b,0+i*3+2,none⟩=some s.insts[i].vv:=by
       rw [Nat.zero_add]
       refine row_cell hrow ?_
       rw [fm_get In.k _ i 2 (by omega),List.getElem?_eq_getElem hi]
       rfl
     refine (varsChanged1_any (w:=W) (b:=b) (o:=0+i*3) (rb:=w.heap.size) ((hWR.cell (p:=⟨w.heap.size,12,none⟩) (by simp)).trans (hcr 12 _ rfl)) (l:=rv) (hr'.up (bel_of hb1w hW nlr)) (by rw [hrn];exact hvn) hcell (row_fro hrow _)).mono ?_
     rintro e W' ⟨rfl,v',w3,hw3,hr3,hb3⟩
     refine ⟨rfl,fun b' off' cap' hv'=>?_⟩
     rw [hv] at hv'
     injection hv' with e1 _ _
     injection e1 with e1
     injection e1 with e3 e4
     subst e3 e4
     exact ⟨v',w3,hw3,hr3,hb3⟩
   · rintro e w' ⟨rfl,hC⟩
     refine ⟨rfl,?_⟩
     unfold CgIn at hC
     have he9:eVars s.e ⟨r0,r1,r2,r3,r4,r5,r6,r7,r8,r9,r10,r11,.slice ra rn rp,rv⟩={ s.e with insts:=(chgL (fun x=>x.kk==r4) (fun x=>{ x with vars:=rv }) s.insts).map In.e }:=by
       rw [chgL_map _ _ (fun x=>{ x with vars:=rv }) In.e (fun x=>rfl) (fun x=>rfl)]
       rfl
     cases hF:s.insts.findIdx? (fun x=>x.kk==r4) with
     | none =>
       rw [hF] at hC
       refine ⟨s,hS1.up hC,?_,(hb1w.mono hB).trans (hC.mono (Nat.le_trans hB hb1w.size))⟩
       rw [he9,chgL_none hF]
       rfl
     | some i =>
       rw [hF] at hC
       obtain ⟨W,hW,hR⟩:=hC
       have hi:=(List.findIdx?_eq_some_iff_getElem.1 hF).1
       obtain ⟨g0,cap0,hv0,-⟩:=row_any (hS1.up hW).rIn (by omega)
       obtain ⟨v',w3,hw3,hr3,hb3⟩:=hR g0 0 cap0 hv0
       rw [Nat.zero_add] at hw3
       subst hw3
       have hbW:Below B w W:=(hb1w.mono hB).trans (hW.mono (Nat.le_trans hB hb1w.size))
       obtain ⟨k1,k2⟩:=(hS1.up hW).inIn (Nat.le_trans hB hbW.size) hi hv0 hb3 hr3
       refine ⟨_,k1,?_,hbW.trans k2⟩
       rw [he9,chgL_some hF hi]
       simp only [St.e,List.map_set]
       rfl
 obtain ⟨aI,cI,hsI,-⟩:=row_slice h.rIn
 have HS:Hid (∀W,Below (w.alloc (.cells #[.int .i64 r0,.int .i64 r1,.int .u64 (r2:Int),.int .i64 r3,.int .u64 (r4:Int),.int .u64 (r5:Int),.int .u64 (r6:Int),.int .i64 r7,.int .i64 r8,.string (S r9),.string (S r10),.string (S r11),.slice ra rn rp] 39)).heap.size (w.alloc (.cells #[.int .i64 r0,.int .i64 r1,.int .u64 (r2:Int),.int .i64 r3,.int .u64 (r4:Int),.int .u64 (r5:Int),.int .u64 (r6:Int),.int .i64 r7,.int .i64 r8,.string (S r9),.string (S r10),.string (S r11),.slice ra rn rp] 39)) W→W.cell? ⟨sb,4,none⟩=some s.vIn∧W.cell? ⟨w.heap.size,4,none⟩=some (.int .u64 (r4:Int))):=fun W hW=>⟨(h.up (bel_of hbw hW nlr)).cell (j:=4) rfl,(hW.cell (p:=⟨w.heap.size,4,none⟩) (by simp)).trans (hcr 4 _ rfl)⟩
 have CO:=fun W=>ofIn_any r4 W
 rw [hsI] at HA HS
 clear h hn ekO ekB hsI hB hsv hr hr' hvn
 obtain ⟨m5,m4⟩:=HS.out _ brf
 simp only [kU] at CO
 clear hcr
 go_enter Tryz.func48,Tryz.ntmps48
 go_wp2
 generalize (w.alloc (.cells #[.int .i64 r0,.int .i64 r1,.int .u64 (r2:Int),.int .i64 r3,.int .u64 (r4:Int),.int .u64 (r5:Int),.int .u64 (r6:Int),.int .i64 r7,.int .i64 r8,.string (S r9),.string (S r10),.string (S r11),.slice ra rn rp] 39))=W1 at *
 go_region_with (first
   | (go_at_call 86;refine (CO _).mono ?_;rintro e w1 ⟨caps,rfl,hsay,hb1⟩;(have hX:Below W1.heap.size W1 w1:=(Below.refl _ W1).drew.trans (hb1.mono nlr));obtain ⟨n5,n4⟩:=HS.out w1 hX;(have CA:=HA.out w1 caps hX (fun x hx=>hsay (fun _=>False) (fun _ e=>e.elim) x hx));clear hsay hb1 CO HA)
   | (go_at_call 85;refine CA.mono ?_;rintro e w2 ⟨rfl,hE⟩;(have K1:Hid _:=hE);clear hE CA))
 all_goals
   go_wp2
   go_end0
   exact ⟨rfl,K1.out⟩
end Go.Proofs.YtmfempdcpoeicaaGreat.f13
