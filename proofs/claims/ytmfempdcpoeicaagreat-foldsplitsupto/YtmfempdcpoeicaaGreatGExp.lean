/-
  Messages, and places, that are taken away.
-/
import Derived.Test.YtmfempdcpoeicaaGreatF13Lef
import Derived.Test.YtmfempdcpoeicaaGreatF13De2
import Derived.Test.YtmfempdcpoeicaaGreatF13Sop
set_option maxHeartbeats 4000000
set_option maxRecDepth 100000
namespace Go.Proofs.YtmfempdcpoeicaaGreat.f13
open Go.RowKit Go.Shelf Go.Sort
open Go.Lib hiding intOf

theorem Sx.flMs {B : Nat} {w w2 : World} {sb : Nat} {s : St} {q : Ms → Bool} {v : Value} (h : Sx B w sb s) (hp : w2.ownsRow B 87 7 v (s.msgs.filter q).length ((s.msgs.filter q).flatMap Ms.c)) (hc : Ch (fun g => s.vMs.ownBlock = some g) w w2) (hn : ∀ g, v.ownBlock = some g → s.vMs.ownBlock = some g ∨ w.heap.size ≤ g) :
   Sx B (w2.setCell ⟨sb,11,none⟩ v) sb { s with vMs:=v,msgs:=s.msgs.filter q }∧(∀(j:Nat) (u:Value),s.c[j]?=some u→w2.cell? ⟨sb,j,none⟩=some u)∧(∀j:Nat,w2.frozen? ⟨sb,j,none⟩=false):=by
 have h2:=Own.perm (M:=Ms.rw s.vMs s.msgs::(bx sb s.c::(De.rw s.vDe s.procs::In.rw s.vIn s.insts::Tk.rw s.vTk s.tokens::Jb.rw s.vJb s.jobs::Tm.rw s.vTm s.timers::Sb.rw s.vSb s.subs::Kp.rw s.vKp s.kept::Ls.rw s.vLs s.listed::s.inner))) h (perm_ac fun z=>by
   simp only [St.rows,St.main,List.count_append,List.count_cons,List.count_nil,Nat.zero_add]
   ac_rfl)
 have h3:=h2.turn (r':=Ms.rw v (s.msgs.filter q)) hc hp hn
 have h4:=h3.of_count (M:=bx sb s.c::(De.rw s.vDe s.procs::In.rw s.vIn s.insts::Tk.rw s.vTk s.tokens::Jb.rw s.vJb s.jobs::Tm.rw s.vTm s.timers::Sb.rw s.vSb s.subs::Kp.rw s.vKp s.kept::Ls.rw s.vLs s.listed::Ms.rw v (s.msgs.filter q)::(s.insts.map In.r++(s.listed.map Ls.r++((s.msgs.filter q).map Ms.r++(s.msgs.filter q).map Ms.q))))) (fun z=>by
   have h7:=(List.filter_sublist (p:=q) (l:=s.msgs)).map Ms.r |>.count_le z
   have h8:=(List.filter_sublist (p:=q) (l:=s.msgs)).map Ms.q |>.count_le z
   simp only [St.inner,List.count_append,List.count_cons]
   omega)
 exact ⟨bx.put h4 11 v,fun j u hj=>bx.cell h4 (List.mem_cons_self ..) hj,fun j=>bx.fro h4 (List.mem_cons_self ..) j⟩

def eExpired (s:St) (r:Rc):St:={ s with msgs:=s.msgs.filter fun x=>!(x.kk==r.k1) }
theorem expired_any {B : Nat} {w : World} {sb : Nat} {s : St} {r : Rc} (h : Sx B w sb s) (hB : B ≤ w.heap.size) (hn : s.msgs.length ≤ 4611686018427387904) (hr : Rr 4 Vr.c w r.vv r.v) :
   Calls Tryz.prog 58 #[.pointer (some ⟨sb,0,none⟩),.agg r.cs.toArray] w fun e w'=>e=.returned (.tuple #[])∧Eff B w sb (eExpired s.e r) w':=by
 obtain ⟨ra,rp,hra,-⟩:=id hr
 obtain ⟨r0,r1,r2,r3,r4,r5,r6,r7,r8,r9,r10,r11,rvv,rv⟩:=r
 simp only at hra hr
 subst hra
 clear hr
 simp only [Rc.cs]
 generalize hrn:rv.length=rn at *
 have hbw:Below w.heap.size w (w.alloc (.cells #[.int .i64 r0,.int .i64 r1,.int .u64 (r2:Int),.int .i64 r3,.int .u64 (r4:Int),.int .u64 (r5:Int),.int .u64 (r6:Int),.int .i64 r7,.int .i64 r8,.string (S r9),.string (S r10),.string (S r11),.slice ra rn rp] 39)):=(Below.refl _ w).alloc nlr _
 have ekO:Ent0 168:=enters_of Tryz.func168 (by kernel_rfl) rfl
 have hcr:(w.alloc (.cells #[.int .i64 r0,.int .i64 r1,.int .u64 (r2:Int),.int .i64 r3,.int .u64 (r4:Int),.int .u64 (r5:Int),.int .u64 (r6:Int),.int .i64 r7,.int .i64 r8,.string (S r9),.string (S r10),.string (S r11),.slice ra rn rp] 39)).cell? ⟨w.heap.size,4,none⟩=some (.int .u64 (r4:Int)):=World.cell?_alloc_new _ _ _ _
 have hszR:(w.alloc (.cells #[.int .i64 r0,.int .i64 r1,.int .u64 (r2:Int),.int .i64 r3,.int .u64 (r4:Int),.int .u64 (r5:Int),.int .u64 (r6:Int),.int .i64 r7,.int .i64 r8,.string (S r9),.string (S r10),.string (S r11),.slice ra rn rp] 39)).heap.size=w.heap.size+1:=by simp
 have hsv:=Own.sv (Own.sub h (List.sublist_cons_self _ _))
 have HA:Hid (∀w1 caps,Below (w.alloc (.cells #[.int .i64 r0,.int .i64 r1,.int .u64 (r2:Int),.int .i64 r3,.int .u64 (r4:Int),.int .u64 (r5:Int),.int .u64 (r6:Int),.int .i64 r7,.int .i64 r8,.string (S r9),.string (S r10),.string (S r11),.slice ra rn rp] 39)).heap.size (w.alloc (.cells #[.int .i64 r0,.int .i64 r1,.int .u64 (r2:Int),.int .i64 r3,.int .u64 (r4:Int),.int .u64 (r5:Int),.int .u64 (r6:Int),.int .i64 r7,.int .i64 r8,.string (S r9),.string (S r10),.string (S r11),.slice ra rn rp] 39)) w1→(∀(X:Nat→Prop),(∀g,X g→g<w.heap.size+1)→∀x:Ms,x.vv.oneCell'=true→x.iv.oneCell'=true→Say X w1 168 caps #[.agg (Ms.c x).toArray] (x.kk==r4))→Calls Tryz.prog 109 #[s.vMs,.func (.func 168) #[] caps] w1 fun e w2=>∃a n c,e=.returned (.slice a n c)∧(∃u,w2.cell? ⟨sb,11,none⟩=some u)∧w2.frozen? ⟨sb,11,none⟩=false∧Eff B w sb (eExpired s.e ⟨r0,r1,r2,r3,r4,r5,r6,r7,r8,r9,r10,r11,.slice ra rn rp,rv⟩) (w2.setCell ⟨sb,11,none⟩ (.slice a n c))):=by
   intro w1 caps hb1 hsay
   have hb1w:Below w.heap.size w w1:=bel_of hbw hb1 nlr
   have hS1:=h.up hb1w
   refine (takeMs_any (B:=B) (fun x=>x.kk==r4) hS1.rMs hn ekO (fun x hx=>hsay (fun g=>s.vMs.ownBlock=some g) (fun g hg=>by have:=(h.rMs.lt g hg).2;omega) x (hsv.iMs x hx).oneCell (hsv.qMs x hx).oneCell) (fun x hx=>by obtain ⟨a,c,e,-⟩:=hsv.iMs x hx;exact ⟨a,_,c,e⟩) (fun x hx=>by obtain ⟨a,c,e,-⟩:=hsv.qMs x hx;exact ⟨a,_,c,e⟩)).mono ?_
   rintro e w2 ⟨v2,rfl,q2,c2,o2⟩
   obtain ⟨a,c,rfl,-⟩:=row_slice q2
   obtain ⟨k1,k2,k3⟩:=hS1.flMs q2 c2 (fun g hg=>.inl (by rw [← o2];exact hg))
   have hlt:=h.lt
   refine ⟨a,_,c,rfl,⟨_,k2 11 _ rfl⟩,k3 11,_,k1,?_,?_⟩
   · simp only [St.e,eExpired,List.filter_map]
     rfl
   · have b1:Below B w w2:=(hb1w.mono hB).trans (Own.ge c2 (Nat.le_trans hB hb1w.size) (fun g hg=>(hS1.rMs.lt g hg).1))
     exact b1.trans (((Ch.refl (fun b=>b=sb) w2).setCell ⟨sb,11,none⟩ _ (fun _=>rfl)).below (Nat.le_trans hB (Nat.le_trans hb1w.size c2.size)) (fun g hg e=>by omega))
 obtain ⟨aI,cI,hsI,-⟩:=row_slice h.rMs
 have HS:Hid (∀W,Below (w.alloc (.cells #[.int .i64 r0,.int .i64 r1,.int .u64 (r2:Int),.int .i64 r3,.int .u64 (r4:Int),.int .u64 (r5:Int),.int .u64 (r6:Int),.int .i64 r7,.int .i64 r8,.string (S r9),.string (S r10),.string (S r11),.slice ra rn rp] 39)).heap.size (w.alloc (.cells #[.int .i64 r0,.int .i64 r1,.int .u64 (r2:Int),.int .i64 r3,.int .u64 (r4:Int),.int .u64 (r5:Int),.int .u64 (r6:Int),.int .i64 r7,.int .i64 r8,.string (S r9),.string (S r10),.string (S r11),.slice ra rn rp] 39)) W→W.cell? ⟨sb,11,none⟩=some s.vMs∧W.frozen? ⟨sb,11,none⟩=false∧W.cell? ⟨w.heap.size,4,none⟩=some (.int .u64 (r4:Int))):=fun W hW=>⟨(h.up (bel_of hbw hW nlr)).cell (j:=11) rfl,(h.up (bel_of hbw hW nlr)).fro 11,(hW.cell (p:=⟨w.heap.size,4,none⟩) (by simp)).trans hcr⟩
 have CO:=fun W=>ofMs_any r4 W
 rw [hsI] at HA HS
 clear h ekO hsI hB hsv hn
 obtain ⟨m5,f5,m4⟩:=HS.out _ brf
 simp only [kU] at CO
 clear hcr
 go_enter Tryz.func58,Tryz.ntmps58
 go_wp2
 generalize (w.alloc (.cells #[.int .i64 r0,.int .i64 r1,.int .u64 (r2:Int),.int .i64 r3,.int .u64 (r4:Int),.int .u64 (r5:Int),.int .u64 (r6:Int),.int .i64 r7,.int .i64 r8,.string (S r9),.string (S r10),.string (S r11),.slice ra rn rp] 39))=W1 at *
 go_region_with (first
   | (go_at_call 110;refine (CO _).mono ?_;rintro e w1 ⟨caps,rfl,hsay,hb1⟩;(have hX:Below W1.heap.size W1 w1:=(Below.refl _ W1).drew.trans (hb1.mono nlr));obtain ⟨n5,g5,n4⟩:=HS.out w1 hX;(have CA:=HA.out w1 caps hX (fun X hX=>hsay X (fun g hg=>by (have:=hX g hg;show g<W1.heap.size;omega))));clear hsay hb1 CO HA)
   | (go_at_call 109;refine CA.mono ?_;rintro e w2 ⟨a2,n2,c2,rfl,⟨u2,p2⟩,g2,hw⟩;(have K1:Hid _:=hw);clear hw CA))
 all_goals
   go_wp2
   go_end0
   exact ⟨rfl,K1.out⟩

theorem Sx.flLs {B : Nat} {w w2 : World} {sb : Nat} {s : St} {q : Ls → Bool} {v : Value} (h : Sx B w sb s) (hp : w2.ownsRow B 81 7 v (s.listed.filter q).length ((s.listed.filter q).flatMap Ls.c)) (hc : Ch (fun g => s.vLs.ownBlock = some g) w w2) (hn : ∀ g, v.ownBlock = some g → s.vLs.ownBlock = some g ∨ w.heap.size ≤ g) :
   Sx B (w2.setCell ⟨sb,10,none⟩ v) sb { s with vLs:=v,listed:=s.listed.filter q }∧(∀(j:Nat) (u:Value),s.c[j]?=some u→w2.cell? ⟨sb,j,none⟩=some u)∧(∀j:Nat,w2.frozen? ⟨sb,j,none⟩=false):=by
 have h2:=Own.perm (M:=Ls.rw s.vLs s.listed::(bx sb s.c::(De.rw s.vDe s.procs::In.rw s.vIn s.insts::Tk.rw s.vTk s.tokens::Jb.rw s.vJb s.jobs::Tm.rw s.vTm s.timers::Sb.rw s.vSb s.subs::Kp.rw s.vKp s.kept::Ms.rw s.vMs s.msgs::s.inner))) h (perm_ac fun z=>by
   simp only [St.rows,St.main,List.count_append,List.count_cons,List.count_nil,Nat.zero_add]
   ac_rfl)
 have h3:=h2.turn (r':=Ls.rw v (s.listed.filter q)) hc hp hn
 have h4:=h3.of_count (M:=bx sb s.c::(De.rw s.vDe s.procs::In.rw s.vIn s.insts::Tk.rw s.vTk s.tokens::Jb.rw s.vJb s.jobs::Tm.rw s.vTm s.timers::Sb.rw s.vSb s.subs::Kp.rw s.vKp s.kept::Ls.rw v (s.listed.filter q)::Ms.rw s.vMs s.msgs::(s.insts.map In.r++((s.listed.filter q).map Ls.r++(s.msgs.map Ms.r++s.msgs.map Ms.q))))) (fun z=>by
   have h7:=(List.filter_sublist (p:=q) (l:=s.listed)).map Ls.r |>.count_le z
   simp only [St.inner,List.count_append,List.count_cons]
   omega)
 exact ⟨bx.put h4 10 v,fun j u hj=>bx.cell h4 (List.mem_cons_self ..) hj,fun j=>bx.fro h4 (List.mem_cons_self ..) j⟩

def eMatched (s:St) (r:Rc):St:={ s with listed:=s.listed.filter fun x=>!(x.kk==(r.k1,r.n)) }
theorem matched_any {B : Nat} {w : World} {sb : Nat} {s : St} {r : Rc} (h : Sx B w sb s) (hB : B ≤ w.heap.size) (hn : s.listed.length ≤ 4611686018427387904) (hr : Rr 4 Vr.c w r.vv r.v) :
   Calls Tryz.prog 60 #[.pointer (some ⟨sb,0,none⟩),.agg r.cs.toArray] w fun e w'=>e=.returned (.tuple #[])∧Eff B w sb (eMatched s.e r) w':=by
 obtain ⟨ra,rp,hra,-⟩:=id hr
 obtain ⟨r0,r1,r2,r3,r4,r5,r6,r7,r8,r9,r10,r11,rvv,rv⟩:=r
 simp only at hra hr
 subst hra
 clear hr
 simp only [Rc.cs]
 generalize hrn:rv.length=rn at *
 have hbw:Below w.heap.size w (w.alloc (.cells #[.int .i64 r0,.int .i64 r1,.int .u64 (r2:Int),.int .i64 r3,.int .u64 (r4:Int),.int .u64 (r5:Int),.int .u64 (r6:Int),.int .i64 r7,.int .i64 r8,.string (S r9),.string (S r10),.string (S r11),.slice ra rn rp] 39)):=(Below.refl _ w).alloc nlr _
 have ekO:Ent0 169:=enters_of Tryz.func169 (by kernel_rfl) rfl
 have hcr:∀(j:Nat) (u:Value),([.int .i64 r0,.int .i64 r1,.int .u64 (r2:Int),.int .i64 r3,.int .u64 (r4:Int),.int .u64 (r5:Int),.int .u64 (r6:Int),.int .i64 r7,.int .i64 r8,.string (S r9),.string (S r10),.string (S r11),.slice ra rn rp]:List Value)[j]?=some u→(w.alloc (.cells #[.int .i64 r0,.int .i64 r1,.int .u64 (r2:Int),.int .i64 r3,.int .u64 (r4:Int),.int .u64 (r5:Int),.int .u64 (r6:Int),.int .i64 r7,.int .i64 r8,.string (S r9),.string (S r10),.string (S r11),.slice ra rn rp] 39)).cell? ⟨w.heap.size,j,none⟩=some u:=fun j u hj=>by
   rw [World.cell?_alloc_new];simpa using hj
 have hszR:(w.alloc (.cells #[.int .i64 r0,.int .i64 r1,.int .u64 (r2:Int),.int .i64 r3,.int .u64 (r4:Int),.int .u64 (r5:Int),.int .u64 (r6:Int),.int .i64 r7,.int .i64 r8,.string (S r9),.string (S r10),.string (S r11),.slice ra rn rp] 39)).heap.size=w.heap.size+1:=by simp
 have hsv:=Own.sv (Own.sub h (List.sublist_cons_self _ _))
 have HA:Hid (∀w1 caps,Below (w.alloc (.cells #[.int .i64 r0,.int .i64 r1,.int .u64 (r2:Int),.int .i64 r3,.int .u64 (r4:Int),.int .u64 (r5:Int),.int .u64 (r6:Int),.int .i64 r7,.int .i64 r8,.string (S r9),.string (S r10),.string (S r11),.slice ra rn rp] 39)).heap.size (w.alloc (.cells #[.int .i64 r0,.int .i64 r1,.int .u64 (r2:Int),.int .i64 r3,.int .u64 (r4:Int),.int .u64 (r5:Int),.int .u64 (r6:Int),.int .i64 r7,.int .i64 r8,.string (S r9),.string (S r10),.string (S r11),.slice ra rn rp] 39)) w1→(∀(X:Nat→Prop),(∀g,X g→g<w.heap.size+1)→∀x:Ls,(∃a n c,x.vv=.slice a n c)→Say X w1 169 caps #[.agg (Ls.c x).toArray] (x.kk==(r4,r7)))→Calls Tryz.prog 118 #[s.vLs,.func (.func 169) #[] caps] w1 fun e w2=>∃a n c,e=.returned (.slice a n c)∧(∃u,w2.cell? ⟨sb,10,none⟩=some u)∧w2.frozen? ⟨sb,10,none⟩=false∧Eff B w sb (eMatched s.e ⟨r0,r1,r2,r3,r4,r5,r6,r7,r8,r9,r10,r11,.slice ra rn rp,rv⟩) (w2.setCell ⟨sb,10,none⟩ (.slice a n c))):=by
   intro w1 caps hb1 hsay
   have hb1w:Below w.heap.size w w1:=bel_of hbw hb1 nlr
   have hS1:=h.up hb1w
   refine (takeLs_any (B:=B) (fun x=>x.kk==(r4,r7)) hS1.rLs hn ekO (fun x hx=>hsay (fun g=>s.vLs.ownBlock=some g) (fun g hg=>by have:=(h.rLs.lt g hg).2;omega) x (by obtain ⟨a,c,e,-⟩:=hsv.iLs x hx;exact ⟨a,_,c,e⟩)) (fun x hx=>by obtain ⟨a,c,e,-⟩:=hsv.iLs x hx;exact ⟨a,_,c,e⟩)).mono ?_
   rintro e w2 ⟨v2,rfl,q2,c2,o2⟩
   obtain ⟨a,c,rfl,-⟩:=row_slice q2
   obtain ⟨k1,k2,k3⟩:=hS1.flLs q2 c2 (fun g hg=>.inl (by rw [← o2];exact hg))
   have hlt:=h.lt
   refine ⟨a,_,c,rfl,⟨_,k2 10 _ rfl⟩,k3 10,_,k1,?_,?_⟩
   · simp only [St.e,eMatched,List.filter_map]
     rfl
   · have b1:Below B w w2:=(hb1w.mono hB).trans (Own.ge c2 (Nat.le_trans hB hb1w.size) (fun g hg=>(hS1.rLs.lt g hg).1))
     exact b1.trans (((Ch.refl (fun b=>b=sb) w2).setCell ⟨sb,10,none⟩ _ (fun _=>rfl)).below (Nat.le_trans hB (Nat.le_trans hb1w.size c2.size)) (fun g hg e=>by omega))
 obtain ⟨aI,cI,hsI,-⟩:=row_slice h.rLs
 have HS:Hid (∀W,Below (w.alloc (.cells #[.int .i64 r0,.int .i64 r1,.int .u64 (r2:Int),.int .i64 r3,.int .u64 (r4:Int),.int .u64 (r5:Int),.int .u64 (r6:Int),.int .i64 r7,.int .i64 r8,.string (S r9),.string (S r10),.string (S r11),.slice ra rn rp] 39)).heap.size (w.alloc (.cells #[.int .i64 r0,.int .i64 r1,.int .u64 (r2:Int),.int .i64 r3,.int .u64 (r4:Int),.int .u64 (r5:Int),.int .u64 (r6:Int),.int .i64 r7,.int .i64 r8,.string (S r9),.string (S r10),.string (S r11),.slice ra rn rp] 39)) W→W.cell? ⟨sb,10,none⟩=some s.vLs∧W.frozen? ⟨sb,10,none⟩=false∧W.cell? ⟨w.heap.size,0,none⟩=some (.int .i64 r0)∧W.cell? ⟨w.heap.size,1,none⟩=some (.int .i64 r1)∧W.cell? ⟨w.heap.size,2,none⟩=some (.int .u64 (r2:Int))∧W.cell? ⟨w.heap.size,3,none⟩=some (.int .i64 r3)∧W.cell? ⟨w.heap.size,4,none⟩=some (.int .u64 (r4:Int))∧W.cell? ⟨w.heap.size,5,none⟩=some (.int .u64 (r5:Int))∧W.cell? ⟨w.heap.size,6,none⟩=some (.int .u64 (r6:Int))∧W.cell? ⟨w.heap.size,7,none⟩=some (.int .i64 r7)∧W.cell? ⟨w.heap.size,8,none⟩=some (.int .i64 r8)∧W.cell? ⟨w.heap.size,9,none⟩=some (.string (S r9))∧W.cell? ⟨w.heap.size,10,none⟩=some (.string (S r10))∧W.cell? ⟨w.heap.size,11,none⟩=some (.string (S r11))∧W.cell? ⟨w.heap.size,12,none⟩=some (.slice ra rn rp)):=fun W hW=>⟨(h.up (bel_of hbw hW nlr)).cell (j:=10) rfl,(h.up (bel_of hbw hW nlr)).fro 10,(hW.cell (p:=⟨w.heap.size,0,none⟩) (by simp)).trans (hcr 0 _ rfl),(hW.cell (p:=⟨w.heap.size,1,none⟩) (by simp)).trans (hcr 1 _ rfl),(hW.cell (p:=⟨w.heap.size,2,none⟩) (by simp)).trans (hcr 2 _ rfl),(hW.cell (p:=⟨w.heap.size,3,none⟩) (by simp)).trans (hcr 3 _ rfl),(hW.cell (p:=⟨w.heap.size,4,none⟩) (by simp)).trans (hcr 4 _ rfl),(hW.cell (p:=⟨w.heap.size,5,none⟩) (by simp)).trans (hcr 5 _ rfl),(hW.cell (p:=⟨w.heap.size,6,none⟩) (by simp)).trans (hcr 6 _ rfl),(hW.cell (p:=⟨w.heap.size,7,none⟩) (by simp)).trans (hcr 7 _ rfl),(hW.cell (p:=⟨w.heap.size,8,none⟩) (by simp)).trans (hcr 8 _ rfl),(hW.cell (p:=⟨w.heap.size,9,none⟩) (by simp)).trans (hcr 9 _ rfl),(hW.cell (p:=⟨w.heap.size,10,none⟩) (by simp)).trans (hcr 10 _ rfl),(hW.cell (p:=⟨w.heap.size,11,none⟩) (by simp)).trans (hcr 11 _ rfl),(hW.cell (p:=⟨w.heap.size,12,none⟩) (by simp)).trans (hcr 12 _ rfl)⟩
 have CO:=fun W=>ofLs_any (r4,r7) W
 rw [hsI] at HA HS
 clear h ekO hsI hB hsv hn
 obtain ⟨m5,f5,b0,b1,b2,b3,b4,b5,b6,b7,b8,b9,b10,b11,b12⟩:=HS.out _ brf
 have CP:=fun W=>placeOf_any W r0 r1 r3 r7 r8 r2 r4 r5 r6 r9 r10 r11 ra rn rp
 simp only [kP] at CO
 clear hcr
 go_enter Tryz.func60,Tryz.ntmps60
 go_wp2
 generalize (w.alloc (.cells #[.int .i64 r0,.int .i64 r1,.int .u64 (r2:Int),.int .i64 r3,.int .u64 (r4:Int),.int .u64 (r5:Int),.int .u64 (r6:Int),.int .i64 r7,.int .i64 r8,.string (S r9),.string (S r10),.string (S r11),.slice ra rn rp] 39))=W1 at *
 go_region_with (first
   | (go_at_call 95;refine (CP _).mono ?_;rintro e w0 ⟨rfl,hb0⟩;(have hX0:Below W1.heap.size W1 w0:=(Below.refl _ W1).drew.trans (hb0.mono nlr));obtain ⟨n6,g6,-⟩:=HS.out w0 hX0;clear hb0 CP)
   | (go_at_call 111;refine (CO _).mono ?_;rintro e w1 ⟨caps,rfl,hsay,hb1⟩;(have hX:Below W1.heap.size W1 w1:=bel_of hX0 hb1 nlr);obtain ⟨n5,g5,-⟩:=HS.out w1 hX;(have CA:=HA.out w1 caps hX (fun X hX'=>hsay X (fun g hg=>by (have:=hX' g hg;have:=hX0.size;omega))));clear hsay hb1 CO HA)
   | (go_at_call 118;refine CA.mono ?_;rintro e w2 ⟨a2,n2,c2,rfl,⟨u2,p2⟩,g2,hw⟩;(have K1:Hid _:=hw);clear hw CA))
 all_goals
   go_wp2
   go_end0
   exact ⟨rfl,K1.out⟩
end Go.Proofs.YtmfempdcpoeicaaGreat.f13
