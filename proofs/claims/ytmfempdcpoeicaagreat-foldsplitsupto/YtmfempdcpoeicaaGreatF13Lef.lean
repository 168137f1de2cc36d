/-
  Package fold's left: a token is taken away, with what it had.
-/
import Derived.Test.YtmfempdcpoeicaaGreatF13Wno
set_option maxHeartbeats 8000000
set_option maxRecDepth 100000
namespace Go.Proofs.YtmfempdcpoeicaaGreat.f13
open Go.RowKit Go.Shelf Go.Sort
open Go.Lib hiding intOf

def eLeft (s:St) (r:Rc):St:=eWait { s with tokens:=s.tokens.filter fun x=>!(x.kk==r.k1) } (fun tok=>tok==r.k1)
theorem left1_any (tok k:Nat) {w:World} {rb:Nat} (h:w.cell? ⟨rb,4,none⟩=some (.int .u64 (k:Int))):Calls Tryz.prog 78 #[.int .u64 (tok:Int),.pointer (some ⟨rb,0,none⟩)] w fun e w'=>e=.returned (.bool (tok==k))∧Below w.heap.size w w':=by
 have hE:Hid ((tok==k)=((tok:Int)==(k:Int))):=by show _=_;rw [Bool.eq_iff_iff,beq_iff_eq,beq_iff_eq];omega
 go_enter Tryz.func78,Tryz.ntmps78
 go_wp2
 go_ret
 rw [hE.out]
 exact ⟨by simp,brf⟩
theorem left_any {B : Nat} {w : World} {sb : Nat} {s : St} {r : Rc} (h : Sx B w sb s) (hB : B ≤ w.heap.size) (nT : s.tokens.length * 56 ≤ 211106232528000) (nJ : s.jobs.length * 64 ≤ 211106232528000) (nM : s.timers.length * 24 ≤ 211106232528000) (nS : s.subs.length * 64 ≤ 211106232528000) (hr : Rr 4 Vr.c w r.vv r.v) :
   Calls Tryz.prog 44 #[.pointer (some ⟨sb,0,none⟩),.agg r.cs.toArray] w fun e w'=>e=.returned (.tuple #[])∧Eff B w sb (eLeft s.e r) w':=by
 obtain ⟨ra,rp,hra,-⟩:=id hr
 obtain ⟨r0,r1,r2,r3,r4,r5,r6,r7,r8,r9,r10,r11,rvv,rv⟩:=r
 simp only at hra hr
 subst hra
 clear hr
 simp only [Rc.cs]
 generalize hrn:rv.length=rn at *
 have hbw:Below w.heap.size w (w.alloc (.cells #[.int .i64 r0,.int .i64 r1,.int .u64 (r2:Int),.int .i64 r3,.int .u64 (r4:Int),.int .u64 (r5:Int),.int .u64 (r6:Int),.int .i64 r7,.int .i64 r8,.string (S r9),.string (S r10),.string (S r11),.slice ra rn rp] 39)):=(Below.refl _ w).alloc nlr _
 have ekO:Ent0 68:=enters_of Tryz.func68 (by kernel_rfl) rfl
 have ekL:Ent0 78:=enters_of Tryz.func78 (by kernel_rfl) rfl
 have hcr:(w.alloc (.cells #[.int .i64 r0,.int .i64 r1,.int .u64 (r2:Int),.int .i64 r3,.int .u64 (r4:Int),.int .u64 (r5:Int),.int .u64 (r6:Int),.int .i64 r7,.int .i64 r8,.string (S r9),.string (S r10),.string (S r11),.slice ra rn rp] 39)).cell? ⟨w.heap.size,4,none⟩=some (.int .u64 (r4:Int)):=World.cell?_alloc_new _ _ _ _
 have hszR:(w.alloc (.cells #[.int .i64 r0,.int .i64 r1,.int .u64 (r2:Int),.int .i64 r3,.int .u64 (r4:Int),.int .u64 (r5:Int),.int .u64 (r6:Int),.int .i64 r7,.int .i64 r8,.string (S r9),.string (S r10),.string (S r11),.slice ra rn rp] 39)).heap.size=w.heap.size+1:=by simp
 have HA:Hid (∀w1 caps,Below (w.alloc (.cells #[.int .i64 r0,.int .i64 r1,.int .u64 (r2:Int),.int .i64 r3,.int .u64 (r4:Int),.int .u64 (r5:Int),.int .u64 (r6:Int),.int .i64 r7,.int .i64 r8,.string (S r9),.string (S r10),.string (S r11),.slice ra rn rp] 39)).heap.size (w.alloc (.cells #[.int .i64 r0,.int .i64 r1,.int .u64 (r2:Int),.int .i64 r3,.int .u64 (r4:Int),.int .u64 (r5:Int),.int .u64 (r6:Int),.int .i64 r7,.int .i64 r8,.string (S r9),.string (S r10),.string (S r11),.slice ra rn rp] 39)) w1→(∀(X:Nat→Prop),(∀g,X g→g<w.heap.size+1)→∀x:Tk,Say X w1 68 caps #[.agg (Tk.c x).toArray] (x.kk==r4))→Calls Tryz.prog 76 #[s.vTk,.func (.func 68) #[] caps] w1 fun e w2=>∃a n c,e=.returned (.slice a n c)∧(∃u,w2.cell? ⟨sb,5,none⟩=some u)∧w2.frozen? ⟨sb,5,none⟩=false∧Hid (Calls Tryz.prog 77 #[.pointer (some ⟨sb,0,none⟩),.func (.func 78) #[] #[.pointer (some ⟨w.heap.size,0,none⟩)]] (w2.setCell ⟨sb,5,none⟩ (.slice a n c)) fun e w'=>e=.returned (.tuple #[])∧Eff B w sb (eLeft s.e ⟨r0,r1,r2,r3,r4,r5,r6,r7,r8,r9,r10,r11,.slice ra rn rp,rv⟩) w')):=by
   intro w1 caps hb1 hsay
   have hb1w:Below w.heap.size w w1:=bel_of hbw hb1 nlr
   have hS1:=h.up hb1w
   refine (takeTk_any (B:=B) (fun x=>x.kk==r4) hS1.rTk (by omega) ekO (fun x _=>hsay (fun g=>s.vTk.ownBlock=some g) (fun g hg=>by have:=(h.rTk.lt g hg).2;omega) x)).mono ?_
   rintro e w2 ⟨v2,rfl,q2,c2,o2⟩
   obtain ⟨a,c,rfl,-⟩:=row_slice q2
   obtain ⟨k1,k2,k3⟩:=hS1.toTk q2 c2 (fun g hg=>.inl (by rw [← o2];exact hg))
   have hlt:=h.lt
   have hC:Ch (fun g=>g<w.heap.size) w1 (w2.setCell ⟨sb,5,none⟩ (.slice a (List.filter (fun x=>!(x.kk==r4)) s.tokens).length c)):=(c2.mono (fun g _ e=>(h.rTk.lt g e).2)).setCell _ _ (fun _=>hlt.2)
   have hBw:Below B w (w2.setCell ⟨sb,5,none⟩ (.slice a (List.filter (fun x=>!(x.kk==r4)) s.tokens).length c)):=by
     have b1:Below B w w2:=(hb1w.mono hB).trans (Own.ge c2 (Nat.le_trans hB hb1w.size) (fun g hg=>(hS1.rTk.lt g hg).1))
     exact b1.trans (((Ch.refl (fun b=>b=sb) w2).setCell ⟨sb,5,none⟩ _ (fun _=>rfl)).below (Nat.le_trans hB (Nat.le_trans hb1w.size c2.size)) (fun g hg e=>by omega))
   refine ⟨a,_,c,rfl,⟨_,k2 5 _ rfl⟩,k3 5,?_⟩
   show Calls _ _ _ _ _
   refine (waitNoMore_any (M:=w.heap.size) (fun tok=>tok==r4) k1 (Nat.le_trans hB (Nat.le_trans hb1w.size hC.size)) (Nat.le_trans hb1w.size hC.size) ekL (fun _=>True) ?_ (fun _ _=>trivial) (fun _ _=>trivial) (fun _ _=>trivial) (fun g hg=>(h.rJb.lt g hg).2) (fun g hg=>(h.rTm.lt g hg).2) (fun g hg=>(h.rSb.lt g hg).2) hlt.2 nJ nM nS).mono ?_
   · intro tok _ W hW
     refine left1_any tok r4 (hW.cell (hC.cell ((hb1.cell (p:=⟨w.heap.size,4,none⟩) (by simp)).trans hcr) ?_) ?_) <;> simp
   · rintro e w' ⟨rfl,t,t1,t2,t3⟩
     exact ⟨rfl,t,t1,t2,hBw.trans t3⟩
 obtain ⟨aI,cI,hsI,-⟩:=row_slice h.rTk
 have HS:Hid (∀W,Below (w.alloc (.cells #[.int .i64 r0,.int .i64 r1,.int .u64 (r2:Int),.int .i64 r3,.int .u64 (r4:Int),.int .u64 (r5:Int),.int .u64 (r6:Int),.int .i64 r7,.int .i64 r8,.string (S r9),.string (S r10),.string (S r11),.slice ra rn rp] 39)).heap.size (w.alloc (.cells #[.int .i64 r0,.int .i64 r1,.int .u64 (r2:Int),.int .i64 r3,.int .u64 (r4:Int),.int .u64 (r5:Int),.int .u64 (r6:Int),.int .i64 r7,.int .i64 r8,.string (S r9),.string (S r10),.string (S r11),.slice ra rn rp] 39)) W→W.cell? ⟨sb,5,none⟩=some s.vTk∧W.frozen? ⟨sb,5,none⟩=false∧W.cell? ⟨w.heap.size,4,none⟩=some (.int .u64 (r4:Int))):=fun W hW=>⟨(h.up (bel_of hbw hW nlr)).cell (j:=5) rfl,(h.up (bel_of hbw hW nlr)).fro 5,(hW.cell (p:=⟨w.heap.size,4,none⟩) (by simp)).trans hcr⟩
 have CO:=fun W=>ofTk_any r4 W
 rw [hsI] at HA HS
 clear h nT nJ nM nS ekO ekL hsI hB
 obtain ⟨m5,f5,m4⟩:=HS.out _ brf
 simp only [kU] at CO
 clear hcr
 go_enter Tryz.func44,Tryz.ntmps44
 go_wp2
 generalize (w.alloc (.cells #[.int .i64 r0,.int .i64 r1,.int .u64 (r2:Int),.int .i64 r3,.int .u64 (r4:Int),.int .u64 (r5:Int),.int .u64 (r6:Int),.int .i64 r7,.int .i64 r8,.string (S r9),.string (S r10),.string (S r11),.slice ra rn rp] 39))=W1 at *
 go_region_with (first
   | (go_at_call 39;refine (CO _).mono ?_;rintro e w1 ⟨caps,rfl,hsay,hb1⟩;(have hX:Below W1.heap.size W1 w1:=(Below.refl _ W1).drew.trans (hb1.mono nlr));obtain ⟨n5,g5,n4⟩:=HS.out w1 hX;(have CA:=HA.out w1 caps hX (fun X hX=>hsay X (fun g hg=>by (have:=hX g hg;show g<W1.heap.size;omega))));clear hsay hb1 CO HA)
   | (go_at_call 76;refine CA.mono ?_;rintro e w2 ⟨a2,n2,c2,rfl,⟨u2,p2⟩,g2,CW⟩;clear CA))
 all_goals
   go_wp2_with (go_at_call 77;refine CW.out.mono ?_;rintro e w3 ⟨rfl,hE⟩;(have K1:Hid _:=hE);clear hE CW)
   go_end0
   exact ⟨rfl,K1.out⟩
end Go.Proofs.YtmfempdcpoeicaaGreat.f13
