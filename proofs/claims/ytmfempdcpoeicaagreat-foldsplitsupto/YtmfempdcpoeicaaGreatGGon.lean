/-
  Instances that are gone.
-/
import Derived.Test.YtmfempdcpoeicaaGreatF13Lef
import Derived.Test.YtmfempdcpoeicaaGreatF13Rng
import Derived.Maps.OwnSet
import Derived.Test.YtmfempdcpoeicaaGreatGExp
set_option maxHeartbeats 8000000
set_option maxRecDepth 100000
namespace Go.Proofs.YtmfempdcpoeicaaGreat.f13
open Go.RowKit Go.Shelf Go.Sort
open Go.Lib hiding intOf
open Go.Maps

theorem uKey:Maps.Keyed Tryz.prog 22:=Maps.int_keyed Tryz.underlying22
theorem wfU {k:Nat} (h:k<18446744073709551616):(Lit.int .u64 (k:Int)).wf=true:=by
 have h1:IntKind.u64.min=0:=by decide
 have h2:IntKind.u64.max=18446744073709551615:=by decide
 simp only [Lit.wf,h1,h2,Bool.and_eq_true,decide_eq_true_eq]
 omega
theorem keyU {k:Nat} (h:k<18446744073709551616):keyOf Tryz.prog 22 (.int .u64 (k:Int))=some (.int .u64 (k:Int)):=keyOf_int_mk Tryz.underlying22 (wfU h)
def Gm (w:World) (mb n:Nat) (q:Nat→Bool):Prop:=∃D:DataW Unit,w.ownsMap Tryz.prog 22 unitElem mb n D∧∀k:Nat,k<18446744073709551616→Maps.has D (.int .u64 (k:Int))=q k
theorem Gm.made (w:World):Gm (w.alloc (.map #[] 0)) w.heap.size 0 (fun _=>false):=⟨_,World.ownsMap_made w Tryz.prog 22 unitElem,fun _ _=>rfl⟩
theorem Gm.put {w : World} {mb n k : Nat} {q : Nat → Bool} (h : Gm w mb n q) (hn : n < maxLen) (hk : k < 18446744073709551616) :
   ∃w',(Instr.mapUpdate 150 (.map (some mb)) (.int .u64 (k:Int)) (.agg #[])).run Tryz.prog w=.ok () w'∧Gm w' mb (n+1) (fun z=>q z || k==z)∧w.grownBy w' (some mb):=by
 obtain ⟨D,hD,hq⟩:=h
 obtain ⟨w',hrun,ho,hg⟩:=hD.update uKey Tryz.underlying150 hn (keyU hk) (val:=.agg #[]) unitElem_mk
 refine ⟨w',hrun,⟨_,ho,fun z hz=>?_⟩,hg⟩
 by_cases e:k=z
 · subst e
   rw [has_put_same hD.isMap (by trivial)]
   simp
 · rw [has_put_other (by intro e';injection e' with _ e';omega),hq z hz]
   simp [e]
theorem Gm.look {w : World} {mb n k : Nat} {q : Nat → Bool} (h : Gm w mb n q) (hk : k < 18446744073709551616) :
   (Instr.lookup 150 (.map (some mb)) (.int .u64 (k:Int)) true).run Tryz.prog w=.ok (.tuple #[.agg #[],.bool (q k)]) w:=by
 obtain ⟨D,hD,hq⟩:=h
 obtain ⟨v,ps,hrun,hR⟩:=hD.look_ok uKey Tryz.underlying150 (Tryz.zeroValue151 w) (zd:=.agg []) (zp:=[]) unitElem_mk (keyU hk)
 rw [(unitElem_inv hR).1,hq k hk] at hrun
 exact hrun
theorem Gm.ch {X:Nat→Prop} {w w':World} {mb n:Nat} {q:Nat→Bool} (h:Gm w mb n q) (hc:Ch X w w') (hX:¬X mb):Gm w' mb n q:=by
 obtain ⟨D,⟨es,clock,hb,rest⟩,hq⟩:=h
 exact ⟨D,⟨es,clock,hc.obj hb hX,rest⟩,hq⟩
theorem Gm.lt {w:World} {mb n:Nat} {q:Nat→Bool} (h:Gm w mb n q):mb<w.heap.size:=by
 obtain ⟨D,⟨es,clock,hb,rest⟩,hq⟩:=h
 exact (Array.getElem?_eq_some_iff.1 hb).1
theorem gone1_any (x:Tk) (k:Nat) {w:World} {rb:Nat} (h:w.cell? ⟨rb,4,none⟩=some (.int .u64 (k:Int))):Calls Tryz.prog 100 #[.agg (Tk.c x).toArray,.pointer (some ⟨rb,0,none⟩)] w fun e w'=>e=.returned (.bool (x.inst==k))∧Below w.heap.size w w':=by
 have hb:=World.block_lt_of_cell? w _ h
 obtain ⟨x0,x1,x2,x3,x4,x5⟩:=x
 have hE:Hid ((x1==k)=((x1:Int)==(k:Int))):=by show _=_;rw [Bool.eq_iff_iff,beq_iff_eq,beq_iff_eq];omega
 have hne:rb≠w.heap.size:=by simp only at hb;omega
 simp only [Tk.c]
 go_enter Tryz.func100,Tryz.ntmps100
 go_wp2
 go_ret
 rw [hE.out]
 exact ⟨by simp,brf.alloc nlr _⟩
theorem gone2_any {w:World} {bb mb n:Nat} {q:Nat→Bool} (tok:Nat) (hm:w.cell? ⟨bb,0,none⟩=some (.map (some mb))) (hg:Gm w mb n q) (hk:tok<18446744073709551616):Calls Tryz.prog 102 #[.int .u64 (tok:Int),.pointer (some ⟨bb,0,none⟩)] w fun e w'=>e=.returned (.bool (q tok))∧Below w.heap.size w w':=by
 have hl:=hg.look hk
 clear hg
 go_enter Tryz.func102,Tryz.ntmps102
 go_wp2
 go_ret
 exact ⟨rfl,brf.alloc nlr _⟩

theorem Sx.flIn {B : Nat} {w w2 : World} {sb : Nat} {s : St} {q : In → Bool} {v : Value} (h : Sx B w sb s) (hp : w2.ownsRow B 58 3 v (s.insts.filter q).length ((s.insts.filter q).flatMap In.c)) (hc : Ch (fun g => s.vIn.ownBlock = some g) w w2) (hn : ∀ g, v.ownBlock = some g → s.vIn.ownBlock = some g ∨ w.heap.size ≤ g) :
   Sx B (w2.setCell ⟨sb,4,none⟩ v) sb { s with vIn:=v,insts:=s.insts.filter q }∧(∀(j:Nat) (u:Value),s.c[j]?=some u→w2.cell? ⟨sb,j,none⟩=some u)∧(∀j:Nat,w2.frozen? ⟨sb,j,none⟩=false):=by
 have h2:=Own.perm (M:=In.rw s.vIn s.insts::(bx sb s.c::(De.rw s.vDe s.procs::Tk.rw s.vTk s.tokens::Jb.rw s.vJb s.jobs::Tm.rw s.vTm s.timers::Sb.rw s.vSb s.subs::Kp.rw s.vKp s.kept::Ls.rw s.vLs s.listed::Ms.rw s.vMs s.msgs::s.inner))) h (perm_ac fun z=>by
   simp only [St.rows,St.main,List.count_append,List.count_cons,List.count_nil,Nat.zero_add]
   ac_rfl)
 have h3:=h2.turn (r':=In.rw v (s.insts.filter q)) hc hp hn
 have h4:=h3.of_count (M:=bx sb s.c::(De.rw s.vDe s.procs::In.rw v (s.insts.filter q)::Tk.rw s.vTk s.tokens::Jb.rw s.vJb s.jobs::Tm.rw s.vTm s.timers::Sb.rw s.vSb s.subs::Kp.rw s.vKp s.kept::Ls.rw s.vLs s.listed::Ms.rw s.vMs s.msgs::((s.insts.filter q).map In.r++(s.listed.map Ls.r++(s.msgs.map Ms.r++s.msgs.map Ms.q))))) (fun z=>by
   have h7:=(List.filter_sublist (p:=q) (l:=s.insts)).map In.r |>.count_le z
   simp only [St.inner,List.count_append,List.count_cons]
   omega)
 exact ⟨bx.put h4 4 v,fun j u hj=>bx.cell h4 (List.mem_cons_self ..) hj,fun j=>bx.fro h4 (List.mem_cons_self ..) j⟩

def gonQ (l:List Tk) (k:Nat) (tok:Nat):Bool:=l.any fun x=>x.inst==k&&x.key==tok
def eGone (s:St) (r:Rc):St:=eWait { s with insts:=s.insts.filter (fun x=>!(x.kk==r.k1)),tokens:=s.tokens.filter (fun x=>!(x.inst==r.k1)) } (gonQ s.tokens r.k1)
theorem gone_tail {B : Nat} {w wr : World} {sb r4 mb bb n : Nat} {s : St} (h : Sx B w sb s) (hB : B ≤ w.heap.size) (hk : Kr s) (nI : s.insts.length ≤ 4611686018427387904) (nT : s.tokens.length ≤ 4611686018427387904) (nJ : s.jobs.length * 64 ≤ 211106232528000) (nM : s.timers.length * 24 ≤ 211106232528000) (nS : s.subs.length * 64 ≤ 211106232528000)
   (hw:Below w.heap.size w wr) (c4:wr.cell? ⟨w.heap.size,4,none⟩=some (.int .u64 (r4:Int))) (hmb:w.heap.size≤mb) (hbb:w.heap.size≤bb) (cb:wr.cell? ⟨bb,0,none⟩=some (.map (some mb))) (hg:Gm wr mb n (gonQ s.tokens r4)) :
   ∀w1 caps,Below wr.heap.size wr w1→(∀(X:Nat→Prop),(∀g,X g→g<wr.heap.size)→∀x:In,x.vv.oneCell'=true→Say X w1 144 caps #[.agg (In.c x).toArray] (x.kk==r4))→Calls Tryz.prog 101 #[s.vIn,.func (.func 144) #[] caps] w1 fun e w2=>∃a n c,e=.returned (.slice a n c)∧((∃u,w2.cell? ⟨sb,4,none⟩=some u)∧w2.frozen? ⟨sb,4,none⟩=false∧w2.cell? ⟨sb,5,none⟩=some s.vTk) ∧
     Hid (Calls Tryz.prog 76 #[s.vTk,.func (.func 100) #[] #[.pointer (some ⟨w.heap.size,0,none⟩)]] (w2.setCell ⟨sb,4,none⟩ (.slice a n c)) fun e w3=>∃a n c,e=.returned (.slice a n c)∧((∃u,w3.cell? ⟨sb,5,none⟩=some u)∧w3.frozen? ⟨sb,5,none⟩=false) ∧
       Hid (Calls Tryz.prog 77 #[.pointer (some ⟨sb,0,none⟩),.func (.func 102) #[] #[.pointer (some ⟨bb,0,none⟩)]] (w3.setCell ⟨sb,5,none⟩ (.slice a n c)) fun e w'=>e=.returned (.tuple #[])∧Eff B w sb (eWait { s.e with insts:=s.e.insts.filter (fun x=>!(x.kk==r4)),tokens:=s.tokens.filter (fun x=>!(x.inst==r4)) } (gonQ s.tokens r4)) w')):=by
 intro w1 caps hb1 hsay
 have ekO:Ent0 144:=enters_of Tryz.func144 (by kernel_rfl) rfl
 have ek1:Ent0 100:=enters_of Tryz.func100 (by kernel_rfl) rfl
 have ek2:Ent0 102:=enters_of Tryz.func102 (by kernel_rfl) rfl
 have hb1w:Below w.heap.size w w1:=bel_of hw hb1 nlr
 have hS1:=h.up hb1w
 have hsv:=Own.sv (Own.sub h (List.sublist_cons_self _ _))
 have hwl:=hw.size
 have hlt:=h.lt
 refine (takeIn_any (B:=B) (fun x=>x.kk==r4) hS1.rIn nI ekO (fun x hx=>hsay (fun g=>s.vIn.ownBlock=some g) (fun g hg=>by have:=(h.rIn.lt g hg).2;omega) x (hsv.iIn x hx).oneCell) (fun x hx=>by obtain ⟨a,c,e,-⟩:=hsv.iIn x hx;exact ⟨a,_,c,e⟩)).mono ?_
 rintro e w2 ⟨v2,rfl,q2,c2,o2⟩
 obtain ⟨a,c,rfl,-⟩:=row_slice q2
 obtain ⟨k1,k2,k3⟩:=hS1.flIn q2 c2 (fun g hg=>.inl (by rw [← o2];exact hg))
 refine ⟨a,_,c,rfl,⟨⟨_,k2 4 _ rfl⟩,k3 4,k2 5 _ rfl⟩,?_⟩
 have hC:Ch (fun g=>g<w.heap.size) w1 (w2.setCell ⟨sb,4,none⟩ (.slice a (List.filter (fun x=>!(x.kk==r4)) s.insts).length c)):=(c2.mono (fun g _ e=>(h.rIn.lt g e).2)).setCell _ _ (fun _=>hlt.2)
 have hBw:Below B w (w2.setCell ⟨sb,4,none⟩ (.slice a (List.filter (fun x=>!(x.kk==r4)) s.insts).length c)):=by
   have b1:Below B w w2:=(hb1w.mono hB).trans (Own.ge c2 (Nat.le_trans hB hb1w.size) (fun g hg=>(hS1.rIn.lt g hg).1))
   exact b1.trans (((Ch.refl (fun b=>b=sb) w2).setCell ⟨sb,4,none⟩ _ (fun _=>rfl)).below (Nat.le_trans hB (Nat.le_trans hb1w.size c2.size)) (fun g hg e=>by omega))
 generalize w2.setCell ⟨sb,4,none⟩ (.slice a (List.filter (fun x=>!(x.kk==r4)) s.insts).length c)=W2 at *
 have hC2:Ch (fun g=>g<w.heap.size) wr W2:=(Ch.of_below hb1).trans hC
 clear hC
 have hW2:=hC2.size
 show Calls _ _ _ _ _
 refine (takeTk_any (B:=B) (caps:=#[.pointer (some ⟨w.heap.size,0,none⟩)]) (fun x=>x.inst==r4) k1.rTk nT ek1 (fun x _ W hW=>gone1_any x r4 ((hC2.trans (hW.mono (fun g _ e=>(h.rTk.lt g e).2))).cell c4 (by simp)))).mono ?_
 rintro e w3 ⟨v3,rfl,q3,c3,o3⟩
 obtain ⟨a3,d3,rfl,-⟩:=row_slice q3
 obtain ⟨j1,j2,j3⟩:=k1.toTk q3 c3 (fun g hg=>.inl (by rw [← o3];exact hg))
 refine ⟨a3,_,d3,rfl,⟨⟨_,j2 5 _ rfl⟩,j3 5⟩,?_⟩
 have hC3:Ch (fun g=>g<w.heap.size) wr (w3.setCell ⟨sb,5,none⟩ (.slice a3 (List.filter (fun x=>!(x.inst==r4)) s.tokens).length d3)):=(hC2.trans (c3.mono (fun g _ e=>(h.rTk.lt g e).2))).setCell _ _ (fun _=>hlt.2)
 have hBw3:Below B w (w3.setCell ⟨sb,5,none⟩ (.slice a3 (List.filter (fun x=>!(x.inst==r4)) s.tokens).length d3)):=by
   have b1:Below B w w3:=hBw.trans (Own.ge c3 (by omega) (fun g hg=>(h.rTk.lt g hg).1))
   exact b1.trans (((Ch.refl (fun b=>b=sb) w3).setCell ⟨sb,5,none⟩ _ (fun _=>rfl)).below (by have:=c3.size;omega) (fun g hg e=>by omega))
 generalize w3.setCell ⟨sb,5,none⟩ (.slice a3 (List.filter (fun x=>!(x.inst==r4)) s.tokens).length d3)=W3 at *
 have hW3:=hC3.size
 show Calls _ _ _ _ _
 refine (waitNoMore_any (M:=w.heap.size) (caps:=#[.pointer (some ⟨bb,0,none⟩)]) (gonQ s.tokens r4) j1 (by omega) (by omega) ek2 (fun tok=>tok<18446744073709551616) ?_ hk.kJb hk.kTm hk.kSb (fun g hg=>(h.rJb.lt g hg).2) (fun g hg=>(h.rTm.lt g hg).2) (fun g hg=>(h.rSb.lt g hg).2) hlt.2 nJ nM nS).mono ?_
 · intro tok ht W hW
   have hCW:=hC3.trans hW
   exact gone2_any tok (hCW.cell cb (by simp only;omega)) (hg.ch hCW (by omega)) ht
 · rintro e w' ⟨rfl,t,t1,t2,t3⟩
   refine ⟨rfl,t,t1,?_,hBw3.trans t3⟩
   rw [t2]
   simp only [St.e,eWait,List.filter_map]
   rfl

theorem gonQ_snoc (l:List Tk) (x:Tk) (k tok:Nat):gonQ (l++[x]) k tok=(gonQ l k tok || (x.inst==k&&x.key==tok)):=by
 unfold gonQ
 rw [List.any_append]
 simp
theorem instGone_any {B : Nat} {w : World} {sb : Nat} {s : St} {r : Rc} (h : Sx B w sb s) (hB : B ≤ w.heap.size) (hk : Kr s) (nI : s.insts.length ≤ 4611686018427387904) (nT : s.tokens.length * 56 ≤ 211106232528000) (nJ : s.jobs.length * 64 ≤ 211106232528000) (nM : s.timers.length * 24 ≤ 211106232528000) (nS : s.subs.length * 64 ≤ 211106232528000) (hr : Rr 4 Vr.c w r.vv r.v) :
   Calls Tryz.prog 54 #[.pointer (some ⟨sb,0,none⟩),.agg r.cs.toArray] w fun e w'=>e=.returned (.tuple #[])∧Eff B w sb (eGone s.e r) w':=by
 obtain ⟨ra,rp,hra,-⟩:=id hr
 obtain ⟨r0,r1,r2,r3,r4,r5,r6,r7,r8,r9,r10,r11,rvv,rv⟩:=r
 simp only at hra hr
 subst hra
 clear hr
 simp only [Rc.cs]
 generalize hrn:rv.length=rn at *
 have hbw:Below w.heap.size w (w.alloc (.cells #[.int .i64 r0,.int .i64 r1,.int .u64 (r2:Int),.int .i64 r3,.int .u64 (r4:Int),.int .u64 (r5:Int),.int .u64 (r6:Int),.int .i64 r7,.int .i64 r8,.string (S r9),.string (S r10),.string (S r11),.slice ra rn rp] 39)):=(Below.refl _ w).alloc nlr _
 have hcr:(w.alloc (.cells #[.int .i64 r0,.int .i64 r1,.int .u64 (r2:Int),.int .i64 r3,.int .u64 (r4:Int),.int .u64 (r5:Int),.int .u64 (r6:Int),.int .i64 r7,.int .i64 r8,.string (S r9),.string (S r10),.string (S r11),.slice ra rn rp] 39)).cell? ⟨w.heap.size,4,none⟩=some (.int .u64 (r4:Int)):=World.cell?_alloc_new _ _ _ _
 have hszR:(w.alloc (.cells #[.int .i64 r0,.int .i64 r1,.int .u64 (r2:Int),.int .i64 r3,.int .u64 (r4:Int),.int .u64 (r5:Int),.int .u64 (r6:Int),.int .i64 r7,.int .i64 r8,.string (S r9),.string (S r10),.string (S r11),.slice ra rn rp] 39)).heap.size=w.heap.size+1:=by simp
 have HT:=fun wr mb bb n=>gone_tail (B:=B) (w:=w) (wr:=wr) (sb:=sb) (r4:=r4) (mb:=mb) (bb:=bb) (n:=n) h hB hk nI (by omega) nJ nM nS
 have HH:Hid (Sx B w sb s):=h
 have HK:Hid (Kr s):=hk
 obtain ⟨aT,cT,hsT,-⟩:=row_slice h.rTk
 have hlt:=h.lt
 have hb2:Below w.heap.size w (((w.alloc (.cells #[.int .i64 r0,.int .i64 r1,.int .u64 (r2:Int),.int .i64 r3,.int .u64 (r4:Int),.int .u64 (r5:Int),.int .u64 (r6:Int),.int .i64 r7,.int .i64 r8,.string (S r9),.string (S r10),.string (S r11),.slice ra rn rp] 39)).alloc (.map #[] 0)).alloc (.cells #[.map (some (w.heap.size+1))] 150)):=(hbw.trans (brf.alloc (by simp) _)).trans (brf.alloc (by simp;omega) _)
 have hz2:(((w.alloc (.cells #[.int .i64 r0,.int .i64 r1,.int .u64 (r2:Int),.int .i64 r3,.int .u64 (r4:Int),.int .u64 (r5:Int),.int .u64 (r6:Int),.int .i64 r7,.int .i64 r8,.string (S r9),.string (S r10),.string (S r11),.slice ra rn rp] 39)).alloc (.map #[] 0)).alloc (.cells #[.map (some (w.heap.size+1))] 150)).heap.size=w.heap.size+3:=by simp
 have HG:Hid (Gm (((w.alloc (.cells #[.int .i64 r0,.int .i64 r1,.int .u64 (r2:Int),.int .i64 r3,.int .u64 (r4:Int),.int .u64 (r5:Int),.int .u64 (r6:Int),.int .i64 r7,.int .i64 r8,.string (S r9),.string (S r10),.string (S r11),.slice ra rn rp] 39)).alloc (.map #[] 0)).alloc (.cells #[.map (some (w.heap.size+1))] 150)) (w.heap.size+1) 0 (gonQ [] r4)):=by
   have h1:=Gm.made (w.alloc (.cells #[.int .i64 r0,.int .i64 r1,.int .u64 (r2:Int),.int .i64 r3,.int .u64 (r4:Int),.int .u64 (r5:Int),.int .u64 (r6:Int),.int .i64 r7,.int .i64 r8,.string (S r9),.string (S r10),.string (S r11),.slice ra rn rp] 39))
   rw [hszR] at h1
   exact h1.ch (X:=fun _=>False) ((Ch.refl _ _).alloc _) (fun e=>e)
 have HRw:Hid (Rr 6 Tk.c w (.slice aT s.tokens.length cT) s.tokens):=by
   have:=Rr.row Tk.k h.rTk
   rw [hsT] at this
   exact this
 have HS:Hid (∀W,Ch (fun g=>g=w.heap.size+1) (((w.alloc (.cells #[.int .i64 r0,.int .i64 r1,.int .u64 (r2:Int),.int .i64 r3,.int .u64 (r4:Int),.int .u64 (r5:Int),.int .u64 (r6:Int),.int .i64 r7,.int .i64 r8,.string (S r9),.string (S r10),.string (S r11),.slice ra rn rp] 39)).alloc (.map #[] 0)).alloc (.cells #[.map (some (w.heap.size+1))] 150)) W→(W.cell? ⟨sb,5,none⟩=some (.slice aT s.tokens.length cT)∧W.cell? ⟨w.heap.size,4,none⟩=some (.int .u64 (r4:Int))∧W.cell? ⟨w.heap.size+1+1,0,none⟩=some (.map (some (w.heap.size+1))))∧Below w.heap.size w W∧w.heap.size+3≤W.heap.size):=by
   intro W hW
   have hbW:Below w.heap.size w W:=hb2.trans (hW.below hb2.size (fun k hk e=>by omega))
   refine ⟨⟨?_,hW.cell ((World.cell?_alloc_lt _ _ _ (by simp;omega)).trans ((World.cell?_alloc_lt _ _ _ (by simp)).trans hcr)) (by simp),hW.cell ?_ (by simp)⟩,hbW,by have:=hW.size;omega⟩
   · have:=(h.up hbW).cell (j:=5) (u:=s.vTk) rfl
     rw [hsT] at this
     exact this
   · have:=World.cell?_alloc_new ((w.alloc (.cells #[.int .i64 r0,.int .i64 r1,.int .u64 (r2:Int),.int .i64 r3,.int .u64 (r4:Int),.int .u64 (r5:Int),.int .u64 (r6:Int),.int .i64 r7,.int .i64 r8,.string (S r9),.string (S r10),.string (S r11),.slice ra rn rp] 39)).alloc (.map #[] 0)) #[.map (some (w.heap.size+1))] 150 0
     rw [World.size_alloc,World.size_alloc] at this
     exact this
 obtain ⟨⟨m5,m4,mm⟩,-,-⟩:=HS.out _ (Ch.refl _ _)
 rw [hsT] at HT
 have hnT:s.tokens.length≤4611686018427387904:=by omega
 have hml:s.tokens.length<maxLen:=by unfold maxLen;omega
 clear h hk hB nI nJ nM nS hcr hbw hb2 nT hsT
 have hmm:=@run_makeMap Tryz.prog
 go_enter Tryz.func54,Tryz.ntmps54
 go_wp2
 generalize (((w.alloc (.cells #[.int .i64 r0,.int .i64 r1,.int .u64 (r2:Int),.int .i64 r3,.int .u64 (r4:Int),.int .u64 (r5:Int),.int .u64 (r6:Int),.int .i64 r7,.int .i64 r8,.string (S r9),.string (S r10),.string (S r11),.slice ra rn rp] 39)).alloc (.map #[] 0)).alloc (.cells #[.map (some (w.heap.size+1))] 150))=W1 at *
 clear m5 m4 mm
 go_loopw [15] (fun v15 wr=>∃i:Nat,v15=.int .i64 (i:Int)∧i≤s.tokens.length∧Hid (Ch (fun g=>g=w.heap.size+1) W1 wr∧∃n,n≤i∧Gm wr (w.heap.size+1) n (gonQ (s.tokens.take i) r4))) (fun v15 _=>s.tokens.length-(intOf v15).toNat)
 case atStart=>exact ⟨0,rfl,Nat.zero_le _,Ch.refl _ _,0,nlr,HG.out⟩
 case round =>
   obtain ⟨i,rfl,hi,HW⟩:=hrel
   obtain ⟨⟨m5,m4,mm⟩,hbr,hzr⟩:=HS.out wr HW.out.1
   by_cases hil:i<s.tokens.length
   · have hil':(i:Int)<(s.tokens.length:Int):=by omega
     have hi0:(0:Int)≤(i:Int):=by omega
     obtain ⟨b,off,cap',hsl,-,hbl,hcell⟩:=HRw.out.at hil
     obtain ⟨rfl,rfl⟩:aT=some ⟨b,off,none⟩∧cT=cap':=by injection hsl with e1 _ e2;exact ⟨e1,e2⟩
     have q0:=hcell wr hbr i hil 0 _ rfl
     have q1:=hcell wr hbr i hil 1 _ rfl
     have q2:=hcell wr hbr i hil 2 _ rfl
     have q3:=hcell wr hbr i hil 3 _ rfl
     have q4:=hcell wr hbr i hil 4 _ rfl
     have q5:=hcell wr hbr i hil 5 _ rfl
     simp only [Nat.add_zero] at q0
     have htk:s.tokens.take (i+1)=s.tokens.take i++[s.tokens[i]]:=by rw [List.take_add_one,List.getElem?_eq_getElem hil];rfl
     have hkx:=HK.out.kTk _ (List.getElem_mem hil)
     obtain ⟨hCr,n,hn,hGr⟩:=HW.out
     have C1:∀W,Below wr.heap.size wr W→Calls Tryz.prog 100 #[.agg (Tk.c s.tokens[i]).toArray,.pointer (some ⟨w.heap.size,0,none⟩)] W fun e w'=>e=.returned (.bool (s.tokens[i].inst==r4))∧Below W.heap.size W w':=fun W hW=>gone1_any s.tokens[i] r4 ((hW.cell (p:=⟨w.heap.size,4,none⟩) (by simp only;omega)).trans m4)
     have hrelN:s.tokens[i].inst≠r4→∀W,Below wr.heap.size wr W→Ch (fun g=>g=w.heap.size+1) W1 W∧∃n,n≤i+1∧Gm W (w.heap.size+1) n (gonQ (s.tokens.take (i+1)) r4):=fun hne W hW=>by
       refine ⟨hCr.trans (Ch.of_below hW),n,by omega,?_⟩
       have e1:gonQ (s.tokens.take (i+1)) r4=gonQ (s.tokens.take i) r4:=by funext z;rw [htk,gonQ_snoc];simp [hne]
       rw [e1]
       exact hGr.ch (X:=fun _=>False) (Ch.of_below hW) (fun e=>e)
     have hrelY:s.tokens[i].inst=r4→∀W,Below wr.heap.size wr W→∃W',(Instr.mapUpdate 150 (.map (some (w.heap.size+1))) (.int .u64 (s.tokens[i].key:Int)) (.agg #[])).run Tryz.prog W=.ok () W'∧Hid (Ch (fun g=>g=w.heap.size+1) W1 W'∧∃n,n≤i+1∧Gm W' (w.heap.size+1) n (gonQ (s.tokens.take (i+1)) r4)):=fun he W hW=>by
       obtain ⟨W',hrun,hG',hgr⟩:=(hGr.ch (X:=fun _=>False) (Ch.of_below hW) (fun e=>e)).put (k:=s.tokens[i].key) (by omega) hkx
       have e1:gonQ (s.tokens.take (i+1)) r4=fun z=>gonQ (s.tokens.take i) r4 z || s.tokens[i].key==z:=by funext z;rw [htk,gonQ_snoc];simp [he]
       refine ⟨W',hrun,(hCr.trans (Ch.of_below hW)).trans (Ch.of_grown hgr (fun k hk _=>by cases hk;rfl)),n+1,by omega,?_⟩
       rw [e1]
       exact hG'
     clear hcell hsl HRw HG HT HW hGr hCr htk hkx hn
     generalize s.tokens[i]=x at *
     obtain ⟨x0,x1,x2,x3,x4,x5⟩:=x
     simp only [Tk.c] at q0 q1 q2 q3 q4 q5 C1 hrelN hrelY
     have hbx:Below wr.heap.size wr (wr.alloc (.cells #[.int .u64 (x0:Int),.int .u64 (x1:Int),.int .u64 (x2:Int),.int .i64 x3,.int .i64 x4,.string (S x5)] 44)):=(Below.refl _ wr).alloc nlr _
     have CX:=C1 _ hbx
     have hcx:(wr.alloc (.cells #[.int .u64 (x0:Int),.int .u64 (x1:Int),.int .u64 (x2:Int),.int .i64 x3,.int .i64 x4,.string (S x5)] 44)).cell? ⟨wr.heap.size,0,none⟩=some (.int .u64 (x0:Int)):=World.cell?_alloc_new _ _ _ _
     have hzx:(wr.alloc (.cells #[.int .u64 (x0:Int),.int .u64 (x1:Int),.int .u64 (x2:Int),.int .i64 x3,.int .i64 x4,.string (S x5)] 44)).heap.size=wr.heap.size+1:=by simp
     clear C1
     by_cases he:x1=r4
     · have e2:(x1==r4)=true:=by simp [he]
       rw [e2] at CX
       have HY:=hrelY he
       clear hrelN hrelY e2 he
       go_wp2_with (go_at_call 100;refine CX.mono ?_;rintro e w1 ⟨rfl,b1⟩;(have hb1:=bel_of hbx b1 nlr);(have n0:=(b1.cell (p:=⟨wr.heap.size,0,none⟩) (by simp)).trans hcx);(have nm:=(hb1.cell (p:=⟨w.heap.size+1+1,0,none⟩) (by simp only;omega)).trans mm);obtain ⟨w2,hrun,HR2⟩:=HY w1 hb1;clear b1 CX hb1 HY)
       go_roundw
       case rel=>exact ⟨i+1,by simp,by omega,HR2.out⟩
       case measure=>simp [intOf];omega
     · have e2:(x1==r4)=false:=by simp [he]
       rw [e2] at CX
       clear hrelY
       go_wp2_with (go_at_call 100;refine CX.mono ?_;rintro e w1 ⟨rfl,b1⟩;(have HR2:Hid _:=hrelN he w1 (bel_of hbx b1 nlr));clear b1 CX hrelN)
       go_roundw
       case rel=>exact ⟨i+1,by simp,by omega,HR2.out⟩
       case measure=>simp [intOf];omega
   · have hil':¬(i:Int)<(s.tokens.length:Int):=by omega
     obtain ⟨hCr,n,hn,hGr⟩:=HW.out
     rw [List.take_of_length_le (by omega)] at hGr
     have HA:Hid _:=HT wr (w.heap.size+1) (w.heap.size+1+1) n hbr m4 (by omega) (by omega) mm hGr
     obtain ⟨aI,cI,hsI,-⟩:=row_slice HH.out.rIn
     have HS2:Hid (∀W,Below wr.heap.size wr W→W.cell? ⟨sb,4,none⟩=some s.vIn∧W.frozen? ⟨sb,4,none⟩=false∧W.cell? ⟨w.heap.size,4,none⟩=some (.int .u64 (r4:Int))):=fun W hW=>⟨(HH.out.up (bel_of hbr hW nlr)).cell (j:=4) rfl,(HH.out.up (bel_of hbr hW nlr)).fro 4,(hW.cell (p:=⟨w.heap.size,4,none⟩) (by simp only;omega)).trans m4⟩
     rw [hsI] at HA HS2
     have CO:=fun W=>ofIn_any r4 W
     simp only [kU] at CO
     obtain ⟨m4s,f4s,m4'⟩:=HS2.out _ brf
     clear HW hCr hGr HT HG HRw hbr m5 mm hsI m4'
     go_wp2
     go_region_with (first
       | (go_at_call 86;refine (CO _).mono ?_;rintro e w1 ⟨caps,rfl,hsay,hb1⟩;(have hX:Below wr.heap.size wr w1:=(Below.refl _ wr).drew.trans (hb1.mono nlr));obtain ⟨n5,g5,n4⟩:=HS2.out w1 hX;(have CA:=HA.out w1 caps hX (fun X hX=>hsay X (fun g hg=>hX g hg)));clear hsay hb1 CO HA)
       | (go_at_call 101;refine CA.mono ?_;rintro e w2 ⟨a2,n2,c2,rfl,⟨⟨u2,p2⟩,g2,t5⟩,CB⟩;clear CA))
     all_goals
       go_wp2_with (first
         | (go_at_call 76;refine CB.out.mono ?_;rintro e w3 ⟨a3,n3,c3,rfl,⟨⟨u3,p3⟩,g3⟩,CW⟩;clear CB)
         | (go_at_call 77;refine CW.out.mono ?_;rintro e w4 ⟨rfl,hE⟩;(have K1:Hid _:=hE);clear hE CW))
       go_end0
       exact ⟨rfl,K1.out⟩
end Go.Proofs.YtmfempdcpoeicaaGreat.f13
