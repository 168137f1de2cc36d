/-
  What is sent, and what has missed.
-/
import Derived.Test.YtmfempdcpoeicaaGreatGSnt
import Derived.Test.YtmfempdcpoeicaaGreatGFst
import Derived.Test.YtmfempdcpoeicaaGreatGExp
set_option maxHeartbeats 8000000
set_option maxRecDepth 100000
namespace Go.Proofs.YtmfempdcpoeicaaGreat.f13
open Go.RowKit Go.Shelf Go.Sort
open Go.Lib hiding intOf

theorem fstLs_yes {q:Ls→Bool} {l:List Ls} {x:Ls} (h:fstLs q l=(x,true)):∃(i:Nat) (hi:i<l.length),l.findIdx? q=some i∧l[i]=x:=by
 cases hF:l.findIdx? q with
 | none=>unfold fstLs at h;rw [find_no hF] at h;cases h
 | some i =>
   obtain ⟨hi,hf⟩:=find_of hF
   unfold fstLs at h
   rw [hf] at h
   injection h with h _
   exact ⟨i,hi,rfl,h⟩
theorem fstMs_yes {q:Ms→Bool} {l:List Ms} {x:Ms} (h:fstMs q l=(x,true)):∃(i:Nat) (hi:i<l.length),l.findIdx? q=some i∧l[i]=x:=by
 cases hF:l.findIdx? q with
 | none=>unfold fstMs at h;rw [find_no hF] at h;cases h
 | some i =>
   obtain ⟨hi,hf⟩:=find_of hF
   unfold fstMs at h
   rw [hf] at h
   injection h with h _
   exact ⟨i,hi,rfl,h⟩
theorem fstLs_no {q:Ls→Bool} {l:List Ls} {x:Ls} (h:fstLs q l=(x,false)):l.find? q=none:=by
 unfold fstLs at h
 split at h
 · cases h
 · assumption
theorem fstMs_no {q:Ms→Bool} {l:List Ms} {x:Ms} (h:fstMs q l=(x,false)):l.find? q=none:=by
 unfold fstMs at h
 split at h
 · cases h
 · assumption
theorem fstLs_vv {q:Ls→Bool} {l:List Ls} (h:∀x∈l,∃a n c,x.vv=.slice a n c):∃a n c,(fstLs q l).1.vv=.slice a n c:=by
 unfold fstLs
 split
 · rename_i x hx
   exact h x (List.mem_of_find?_eq_some hx)
 · exact ⟨_,_,_,rfl⟩
theorem fstMs_vv {q:Ms→Bool} {l:List Ms} (h:∀x∈l,∃a n c,x.vv=.slice a n c):∃a n c,(fstMs q l).1.vv=.slice a n c:=by
 unfold fstMs
 split
 · rename_i x hx
   exact h x (List.mem_of_find?_eq_some hx)
 · exact ⟨_,_,_,rfl⟩
theorem fstMs_iv {q:Ms→Bool} {l:List Ms} (h:∀x∈l,∃a n c,x.iv=.slice a n c):∃a n c,(fstMs q l).1.iv=.slice a n c:=by
 unfold fstMs
 split
 · rename_i x hx
   exact h x (List.mem_of_find?_eq_some hx)
 · exact ⟨_,_,_,rfl⟩
theorem findL_e (p:Nat × Int) (l:List Ls):(l.map Ls.e).find? (fun x=>x.kk==p)=(l.find? (fun x=>x.kk==p)).map Ls.e:=by rw [List.find?_map];rfl
theorem findM_e (k:Nat) (l:List Ms):(l.map Ms.e).find? (fun x=>x.kk==k)=(l.find? (fun x=>x.kk==k)).map Ms.e:=by rw [List.find?_map];rfl
theorem eSending_yes {s:St} {r:Rc} {i j:Nat} (hF:s.listed.findIdx? (fun x=>x.kk==(r.k1,r.n))=some i) (hi:i<s.listed.length) (hG:s.msgs.findIdx? (fun x=>x.kk==r.k2)=some j) (hj:j<s.msgs.length):eSending s.e r=sendL s.e (r.k1,r.n) r.k2 s.listed[i].inst s.msgs[j].key s.msgs[j].vars:=by
 obtain ⟨_,h1⟩:=find_of hF
 obtain ⟨_,h2⟩:=find_of hG
 unfold eSending
 simp only [St.e,findL_e,findM_e,h1,h2,Option.map_some]
 rfl
theorem eSending_no1 {s:St} {r:Rc} (h:s.listed.find? (fun x=>x.kk==(r.k1,r.n))=none):eSending s.e r=s.e:=by
 unfold eSending
 simp only [St.e,findL_e,findM_e,h,Option.map_none]
theorem eSending_no2 {s:St} {r:Rc} (h:s.msgs.find? (fun x=>x.kk==r.k2)=none):eSending s.e r=s.e:=by
 unfold eSending
 simp only [St.e,findL_e,findM_e,h,Option.map_none]
 cases s.listed.find? (fun x=>x.kk==(r.k1,r.n)) <;> rfl
theorem sending_any {B : Nat} {w : World} {sb : Nat} {s : St} {r : Rc} (h : Sx B w sb s) (hB : B ≤ w.heap.size) (hnL : s.listed.length ≤ 4611686018427387904) (hnM : s.msgs.length ≤ 4611686018427387904) (hbig : ∀ x ∈ s.msgs, (x.its.length + 1) * 8 ≤ 211106232528000) (hvn : ∀ x ∈ s.msgs, x.vars.length * 48 ≤ 211106232528000) (hr : Rr 4 Vr.c w r.vv r.v) :
   Calls Tryz.prog 59 #[.pointer (some ⟨sb,0,none⟩),.agg r.cs.toArray] w fun e w'=>e=.returned (.tuple #[])∧Eff B w sb (eSending s.e r) w':=by
 obtain ⟨ra,rp,hra,-⟩:=id hr
 obtain ⟨r0,r1,r2,r3,r4,r5,r6,r7,r8,r9,r10,r11,rvv,rv⟩:=r
 simp only at hra hr
 subst hra
 clear hr
 simp only [Rc.cs]
 generalize hrn:rv.length=rn at *
 have hbw:Below w.heap.size w (w.alloc (.cells #[.int .i64 r0,.int .i64 r1,.int .u64 (r2:Int),.int .i64 r3,.int .u64 (r4:Int),.int .u64 (r5:Int),.int .u64 (r6:Int),.int .i64 r7,.int .i64 r8,.string (S r9),.string (S r10),.string (S r11),.slice ra rn rp] 39)):=(Below.refl _ w).alloc nlr _
 have hcr:∀(j:Nat) (u:Value),([.int .i64 r0,.int .i64 r1,.int .u64 (r2:Int),.int .i64 r3,.int .u64 (r4:Int),.int .u64 (r5:Int),.int .u64 (r6:Int),.int .i64 r7,.int .i64 r8,.string (S r9),.string (S r10),.string (S r11),.slice ra rn rp]:List Value)[j]?=some u→(w.alloc (.cells #[.int .i64 r0,.int .i64 r1,.int .u64 (r2:Int),.int .i64 r3,.int .u64 (r4:Int),.int .u64 (r5:Int),.int .u64 (r6:Int),.int .i64 r7,.int .i64 r8,.string (S r9),.string (S r10),.string (S r11),.slice ra rn rp] 39)).cell? ⟨w.heap.size,j,none⟩=some u:=fun j u hj=>by
   rw [World.cell?_alloc_new];simpa using hj
 have hszR:(w.alloc (.cells #[.int .i64 r0,.int .i64 r1,.int .u64 (r2:Int),.int .i64 r3,.int .u64 (r4:Int),.int .u64 (r5:Int),.int .u64 (r6:Int),.int .i64 r7,.int .i64 r8,.string (S r9),.string (S r10),.string (S r11),.slice ra rn rp] 39)).heap.size=w.heap.size+1:=by simp
 have HS:Hid (∀W,Below (w.alloc (.cells #[.int .i64 r0,.int .i64 r1,.int .u64 (r2:Int),.int .i64 r3,.int .u64 (r4:Int),.int .u64 (r5:Int),.int .u64 (r6:Int),.int .i64 r7,.int .i64 r8,.string (S r9),.string (S r10),.string (S r11),.slice ra rn rp] 39)).heap.size (w.alloc (.cells #[.int .i64 r0,.int .i64 r1,.int .u64 (r2:Int),.int .i64 r3,.int .u64 (r4:Int),.int .u64 (r5:Int),.int .u64 (r6:Int),.int .i64 r7,.int .i64 r8,.string (S r9),.string (S r10),.string (S r11),.slice ra rn rp] 39)) W→W.cell? ⟨w.heap.size,0,none⟩=some (.int .i64 r0)∧W.cell? ⟨w.heap.size,1,none⟩=some (.int .i64 r1)∧W.cell? ⟨w.heap.size,2,none⟩=some (.int .u64 (r2:Int))∧W.cell? ⟨w.heap.size,3,none⟩=some (.int .i64 r3)∧W.cell? ⟨w.heap.size,4,none⟩=some (.int .u64 (r4:Int))∧W.cell? ⟨w.heap.size,5,none⟩=some (.int .u64 (r5:Int))∧W.cell? ⟨w.heap.size,6,none⟩=some (.int .u64 (r6:Int))∧W.cell? ⟨w.heap.size,7,none⟩=some (.int .i64 r7)∧W.cell? ⟨w.heap.size,8,none⟩=some (.int .i64 r8)∧W.cell? ⟨w.heap.size,9,none⟩=some (.string (S r9))∧W.cell? ⟨w.heap.size,10,none⟩=some (.string (S r10))∧W.cell? ⟨w.heap.size,11,none⟩=some (.string (S r11))∧W.cell? ⟨w.heap.size,12,none⟩=some (.slice ra rn rp)):=fun W hW=>⟨(hW.cell (p:=⟨w.heap.size,0,none⟩) (by simp)).trans (hcr 0 _ rfl),(hW.cell (p:=⟨w.heap.size,1,none⟩) (by simp)).trans (hcr 1 _ rfl),(hW.cell (p:=⟨w.heap.size,2,none⟩) (by simp)).trans (hcr 2 _ rfl),(hW.cell (p:=⟨w.heap.size,3,none⟩) (by simp)).trans (hcr 3 _ rfl),(hW.cell (p:=⟨w.heap.size,4,none⟩) (by simp)).trans (hcr 4 _ rfl),(hW.cell (p:=⟨w.heap.size,5,none⟩) (by simp)).trans (hcr 5 _ rfl),(hW.cell (p:=⟨w.heap.size,6,none⟩) (by simp)).trans (hcr 6 _ rfl),(hW.cell (p:=⟨w.heap.size,7,none⟩) (by simp)).trans (hcr 7 _ rfl),(hW.cell (p:=⟨w.heap.size,8,none⟩) (by simp)).trans (hcr 8 _ rfl),(hW.cell (p:=⟨w.heap.size,9,none⟩) (by simp)).trans (hcr 9 _ rfl),(hW.cell (p:=⟨w.heap.size,10,none⟩) (by simp)).trans (hcr 10 _ rfl),(hW.cell (p:=⟨w.heap.size,11,none⟩) (by simp)).trans (hcr 11 _ rfl),(hW.cell (p:=⟨w.heap.size,12,none⟩) (by simp)).trans (hcr 12 _ rfl)⟩
 have CP:=fun W=>placeOf_any W r0 r1 r3 r7 r8 r2 r4 r5 r6 r9 r10 r11 ra rn rp
 have CO1:=fun W=>ofLs_any (r4,r7) W
 have CO2:=fun W=>ofMs_any r5 W
 simp only [kP,kU] at CO1 CO2
 obtain ⟨b0,b1,b2,b3,b4,b5,b6,b7,b8,b9,b10,b11,b12⟩:=HS.out _ brf
 have hsv:=Own.sv (Own.sub h (List.sublist_cons_self _ _))
 have hslL:∀x∈s.listed,∃a n c,x.vv=.slice a n c:=fun x hx=>by obtain ⟨a,c,e,-⟩:=hsv.iLs x hx;exact ⟨a,_,c,e⟩
 have hslM:∀x∈s.msgs,∃a n c,x.vv=.slice a n c:=fun x hx=>by obtain ⟨a,c,e,-⟩:=hsv.iMs x hx;exact ⟨a,_,c,e⟩
 have hslI:∀x∈s.msgs,∃a n c,x.iv=.slice a n c:=fun x hx=>by obtain ⟨a,c,e,-⟩:=hsv.qMs x hx;exact ⟨a,_,c,e⟩
 have ekL:Ent0 169:=enters_of Tryz.func169 (by kernel_rfl) rfl
 have ekM:Ent0 168:=enters_of Tryz.func168 (by kernel_rfl) rfl
 have HH:Hid (Sx B w sb s):=h
 have HE1:Hid (∀x,fstLs (fun x=>x.kk==(r4,r7)) s.listed=(x,false)→eSending s.e ⟨r0,r1,r2,r3,r4,r5,r6,r7,r8,r9,r10,r11,.slice ra rn rp,rv⟩=s.e):=fun x hx=>eSending_no1 (fstLs_no hx)
 have HE2:Hid (∀x,fstMs (fun x=>x.kk==r5) s.msgs=(x,false)→eSending s.e ⟨r0,r1,r2,r3,r4,r5,r6,r7,r8,r9,r10,r11,.slice ra rn rp,rv⟩=s.e):=fun x hx=>eSending_no2 (fstMs_no hx)
 have HT : Hid (∀ (W5 : World) (lb mb : Nat) (caps1 caps2 : Array Value) (xl : Ls) (xm : Ms), fstLs (fun x => x.kk == (r4, r7)) s.listed = (xl, true) → fstMs (fun x => x.kk == r5) s.msgs = (xm, true) → Below w.heap.size w W5 → w.heap.size ≤ lb → w.heap.size ≤ mb → W5.cell? ⟨lb, 1, none⟩ = some (.int .u64 (xl.inst : Int)) → W5.cell? ⟨mb, 0, none⟩ = some (.int .u64 (xm.key : Int)) → W5.cell? ⟨mb, 5, none⟩ = some xm.vv → (∀ (X : Nat → Prop), (∀ g, X g → g < w.heap.size) → ∀ x : Ls, (∃ a n c, x.vv = .slice a n c) → Say X W5 169 caps1 #[.agg (Ls.c x).toArray] (x.kk == (r4, r7))) → (∀ (X : Nat → Prop), (∀ g, X g → g < w.heap.size) → ∀ x : Ms, x.vv.oneCell' = true → x.iv.oneCell' = true → Say X W5 168 caps2 #[.agg (Ms.c x).toArray] (x.kk == r5)) →
     Calls Tryz.prog 114 #[s.vLs,.func (.func 169) #[] caps1,.func (.func 115) #[] #[.pointer (some ⟨mb,0,none⟩)]] W5 fun e w'=>e=.returned (.tuple #[])∧w'.cell? ⟨sb,11,none⟩=some s.vMs∧Hid (Calls Tryz.prog 116 #[s.vMs,.func (.func 168) #[] caps2,.func (.func 117) #[] #[.pointer (some ⟨lb,0,none⟩)]] w' fun e w'=>e=.returned (.tuple #[])∧Eff B w sb (eSending s.e ⟨r0,r1,r2,r3,r4,r5,r6,r7,r8,r9,r10,r11,.slice ra rn rp,rv⟩) w')):=by
   intro W5 lb mb caps1 caps2 xl xm hl hm hw hlb hmb cl c0 c5 hs1 hs2
   obtain ⟨i,hi,hF,hxl⟩:=fstLs_yes hl
   obtain ⟨j,hj,hG,hxm⟩:=fstMs_yes hm
   subst hxl hxm
   have hes:=eSending_yes (s:=s) (r:=⟨r0,r1,r2,r3,r4,r5,r6,r7,r8,r9,r10,r11,.slice ra rn rp,rv⟩) hF hi hG hj
   rw [hes]
   exact send_tail (caps1:=caps1) (caps2:=caps2) h hB hnL hnM hF hi hG hj (hbig _ (List.getElem_mem hj)) (hvn _ (List.getElem_mem hj)) hw hlb hmb cl c0 c5 hs1 hs2
 have HF1:Hid (∀(W:World) (caps1:Array Value),Below w.heap.size w W→(∀(X:Nat→Prop),(∀g,X g→g<w.heap.size)→∀x:Ls,(∃a n c,x.vv=.slice a n c)→Say X W 169 caps1 #[.agg (Ls.c x).toArray] (x.kk==(r4,r7)))→Calls Tryz.prog 112 #[s.vLs,.func (.func 169) #[] caps1] W fun e w'=>e=.returned (.tuple #[.agg (Ls.c (fstLs (fun x=>x.kk==(r4,r7)) s.listed).1).toArray,.bool (fstLs (fun x=>x.kk==(r4,r7)) s.listed).2])∧Below W.heap.size W w'):=fun W caps1 hW hs1=>firstLs_any (X:=fun _=>False) (caps:=caps1) _ (Rr.row Ls.k (h.up hW).rLs) hnL ekL (fun x hx=>hs1 _ (fun _ e=>e.elim) x (hslL x hx)) hslL
 have HF2:Hid (∀(W:World) (caps2:Array Value),Below w.heap.size w W→(∀(X:Nat→Prop),(∀g,X g→g<w.heap.size)→∀x:Ms,x.vv.oneCell'=true→x.iv.oneCell'=true→Say X W 168 caps2 #[.agg (Ms.c x).toArray] (x.kk==r5))→Calls Tryz.prog 113 #[s.vMs,.func (.func 168) #[] caps2] W fun e w'=>e=.returned (.tuple #[.agg (Ms.c (fstMs (fun x=>x.kk==r5) s.msgs).1).toArray,.bool (fstMs (fun x=>x.kk==r5) s.msgs).2])∧Below W.heap.size W w'):=fun W caps2 hW hs2=>firstMs_any (X:=fun _=>False) (caps:=caps2) _ (Rr.row Ms.k (h.up hW).rMs) hnM ekM (fun x hx=>hs2 _ (fun _ e=>e.elim) x (hsv.iMs x hx).oneCell (hsv.qMs x hx).oneCell) hslM hslI
 obtain ⟨la,ln,lc,hlv⟩:=fstLs_vv (q:=fun x=>x.kk==(r4,r7)) hslL
 obtain ⟨vva,vvn,vvc,hmv⟩:=fstMs_vv (q:=fun x=>x.kk==r5) hslM
 obtain ⟨iva,ivn,ivc,hmi⟩:=fstMs_iv (q:=fun x=>x.kk==r5) hslI
 obtain ⟨aL,cL,hsL,-⟩:=row_slice h.rLs
 obtain ⟨aM,cM,hsM,-⟩:=row_slice h.rMs
 have HSL:Hid (∀W,Below w.heap.size w W→W.cell? ⟨sb,10,none⟩=some s.vLs∧W.cell? ⟨sb,11,none⟩=some s.vMs):=fun W hW=>⟨(h.up hW).cell (j:=10) rfl,(h.up hW).cell (j:=11) rfl⟩
 rw [hsL,hsM] at HSL
 rw [hsL,hsM] at HT
 rw [hsL] at HF1
 rw [hsM] at HF2
 clear h hcr hslL hslM hslI ekL ekM hsv hbig hvn hnL hnM hsL hsM
 generalize fstLs (fun x=>x.kk==(r4,r7)) s.listed=pl at *
 generalize fstMs (fun x=>x.kk==r5) s.msgs=pm at *
 obtain ⟨⟨l0,l1,l2,l3,l4,l5,l6,lv⟩,isL⟩:=pl
 obtain ⟨⟨m0,m1,m2,m3,m4,m5,m6,mv,mi⟩,isM⟩:=pm
 simp only at hlv hmv hmi
 subst hlv hmv hmi
 simp only [Ls.c,Ms.c] at HF1 HF2
 have hlt:=HH.out.lt
 go_enter Tryz.func59,Tryz.ntmps59
 go_wp2
 generalize (w.alloc (.cells #[.int .i64 r0,.int .i64 r1,.int .u64 (r2:Int),.int .i64 r3,.int .u64 (r4:Int),.int .u64 (r5:Int),.int .u64 (r6:Int),.int .i64 r7,.int .i64 r8,.string (S r9),.string (S r10),.string (S r11),.slice ra rn rp] 39))=W1 at *
 go_region_held3 (fun W=>W.cell? ⟨w.heap.size,0,none⟩=some (.int .i64 r0)∧W.cell? ⟨w.heap.size,1,none⟩=some (.int .i64 r1)∧W.cell? ⟨w.heap.size,2,none⟩=some (.int .u64 (r2:Int))∧W.cell? ⟨w.heap.size,3,none⟩=some (.int .i64 r3)∧W.cell? ⟨w.heap.size,4,none⟩=some (.int .u64 (r4:Int))∧W.cell? ⟨w.heap.size,5,none⟩=some (.int .u64 (r5:Int))∧W.cell? ⟨w.heap.size,6,none⟩=some (.int .u64 (r6:Int))∧W.cell? ⟨w.heap.size,7,none⟩=some (.int .i64 r7)∧W.cell? ⟨w.heap.size,8,none⟩=some (.int .i64 r8)∧W.cell? ⟨w.heap.size,9,none⟩=some (.string (S r9))∧W.cell? ⟨w.heap.size,10,none⟩=some (.string (S r10))∧W.cell? ⟨w.heap.size,11,none⟩=some (.string (S r11))∧W.cell? ⟨w.heap.size,12,none⟩=some (.slice ra rn rp))
   (first | go_keep | exact HS.out _ brf | exact HS.out _ brf.drew | exact HS.out _ hX2 | exact HS.out _ hX1 | exact HS.out _ hX0 )
   (first
     | (go_at_call 95;refine (CP _).mono ?_;rintro e w0 ⟨rfl,hb0⟩;(have hX0:Below W1.heap.size W1 w0:=(Below.refl _ W1).drew.trans (hb0.mono nlr));clear hb0 CP)
     | (go_at_call 111;refine (CO1 _).mono ?_;rintro e w1 ⟨caps1,rfl,hsay1,hb1⟩;(have hX1:Below W1.heap.size W1 w1:=bel_of hX0 hb1 nlr);clear hb1 CO1)
     | (go_at_call 110;refine (CO2 _).mono ?_;rintro e w2 ⟨caps2,rfl,hsay2,hb2⟩;(have hX2:Below W1.heap.size W1 w2:=bel_of hX1 hb2 nlr);(have HSA:Hid (∀(X:Nat→Prop),(∀g,X g→g<w.heap.size)→∀x:Ls,(∃a n c,x.vv=.slice a n c)→Say X w2 169 caps1 #[.agg (Ls.c x).toArray] (x.kk==(r4,r7))):=fun X hX x hx=>(hsay1 X (fun g hg=>by (have:=hX g hg;have:=hX0.size;omega)) x hx).ch (Ch.of_below hb2));(have HSB:Hid (∀(X:Nat→Prop),(∀g,X g→g<w.heap.size)→∀x:Ms,x.vv.oneCell'=true→x.iv.oneCell'=true→Say X w2 168 caps2 #[.agg (Ms.c x).toArray] (x.kk==r5)):=fun X hX x hx hy=>hsay2 X (fun g hg=>by (have:=hX g hg;have:=hX1.size;omega)) x hx hy);clear hb2 hsay1 hsay2 CO2))
 all_goals
   have hbw2:Below w.heap.size w w2:=bel_of hbw hX2 nlr
   obtain ⟨m10,m11⟩:=HSL.out w2 hbw2
   have CF1:=HF1.out w2 caps1 hbw2 HSA.out
   have H2:Hid (Below w.heap.size w w2):=hbw2
   clear hX0 hX1 hX2 HS HF1 b0 b1 b2 b3 b4 b5 b6 b7 b8 b9 b10 b11 b12 hbw2 hbw
   cases isL <;> cases isM
   all_goals
     go_wp2_with (first
       | (go_at_call 112;refine CF1.mono ?_;rintro e w3 ⟨rfl,hb3⟩;(have H3:Hid (Below w2.heap.size w2 (w3.alloc (.cells #[.int .u64 (l0:Int),.int .u64 (l1:Int),.int .i64 l2,.string (S l3),.string (S l4),.int .u64 (l5:Int),.slice la ln lc] 81))):=hb3.trans ((Below.refl _ w3).alloc hb3.size _));(have hw3:Below w.heap.size w (w3.alloc (.cells #[.int .u64 (l0:Int),.int .u64 (l1:Int),.int .i64 l2,.string (S l3),.string (S l4),.int .u64 (l5:Int),.slice la ln lc] 81)):=bel_of H2.out H3.out nlr);obtain ⟨t10,t11⟩:=HSL.out _ hw3;(have CF2:=HF2.out _ caps2 hw3 (fun X hX x hx hy=>(HSB.out X hX x hx hy).ch (Ch.of_below H3.out)));(have hlb:(w3.alloc (.cells #[.int .u64 (l0:Int),.int .u64 (l1:Int),.int .i64 l2,.string (S l3),.string (S l4),.int .u64 (l5:Int),.slice la ln lc] 81)).cell? ⟨w3.heap.size,1,none⟩=some (.int .u64 (l1:Int)):=World.cell?_alloc_new _ _ _ _);(have hz3:(w3.alloc (.cells #[.int .u64 (l0:Int),.int .u64 (l1:Int),.int .i64 l2,.string (S l3),.string (S l4),.int .u64 (l5:Int),.slice la ln lc] 81)).heap.size=w3.heap.size+1:=by simp);(have hz3':w.heap.size≤w3.heap.size:=Nat.le_trans H2.out.size hb3.size);(have HL:Hid _:=hlb);clear hb3 CF1 HF2 m10 m11 hlb)
       | (go_at_call 113;refine CF2.mono ?_;rintro e w4 ⟨rfl,hb4⟩;(have H4:Hid (Below (w3.alloc (.cells #[.int .u64 (l0:Int),.int .u64 (l1:Int),.int .i64 l2,.string (S l3),.string (S l4),.int .u64 (l5:Int),.slice la ln lc] 81)).heap.size (w3.alloc (.cells #[.int .u64 (l0:Int),.int .u64 (l1:Int),.int .i64 l2,.string (S l3),.string (S l4),.int .u64 (l5:Int),.slice la ln lc] 81)) (w4.alloc (.cells #[.int .u64 (m0:Int),.string (S m1),.string (S m2),.string (S m3),.int .i64 m4,.slice vva vvn vvc,.slice iva ivn ivc] 87))):=hb4.trans ((Below.refl _ w4).alloc hb4.size _));(have hw4:Below w.heap.size w (w4.alloc (.cells #[.int .u64 (m0:Int),.string (S m1),.string (S m2),.string (S m3),.int .i64 m4,.slice vva vvn vvc,.slice iva ivn ivc] 87)):=bel_of hw3 H4.out nlr);obtain ⟨v10,v11⟩:=HSL.out _ hw4;(have HW4:Hid (Below w.heap.size w (w4.alloc (.cells #[.int .u64 (m0:Int),.string (S m1),.string (S m2),.string (S m3),.int .i64 m4,.slice vva vvn vvc,.slice iva ivn ivc] 87))):=hw4);(have HQ:Hid (w.heap.size≤w4.heap.size):=Nat.le_trans hw3.size hb4.size);clear hb4 CF2 hw3 hw4 t10 t11)
       | fail)
   · (try simp only [Exit.inBlock,Exit.then])
     refine bodyPost_ret (results_none rfl _ _ _) rfl ?_
     exact ⟨rfl,s,HH.out.up HW4.out,(HE1.out _ rfl).symm,HW4.out.mono hB⟩
   · (try simp only [Exit.inBlock,Exit.then])
     refine bodyPost_ret (results_none rfl _ _ _) rfl ?_
     exact ⟨rfl,s,HH.out.up HW4.out,(HE1.out _ rfl).symm,HW4.out.mono hB⟩
   · (try simp only [Exit.inBlock,Exit.then])
     refine bodyPost_ret (results_none rfl _ _ _) rfl ?_
     exact ⟨rfl,s,HH.out.up HW4.out,(HE2.out _ rfl).symm,HW4.out.mono hB⟩
   · refine (HT.out (w4.alloc (.cells #[.int .u64 (m0:Int),.string (S m1),.string (S m2),.string (S m3),.int .i64 m4,.slice vva vvn vvc,.slice iva ivn ivc] 87)) w3.heap.size w4.heap.size caps1 caps2 ⟨l0,l1,l2,l3,l4,l5,.slice la ln lc,lv⟩ ⟨m0,m1,m2,m3,m4,.slice vva vvn vvc,.slice iva ivn ivc,mv,mi⟩ rfl rfl HW4.out hz3' HQ.out ((H4.out.cell (p:=⟨w3.heap.size,1,none⟩) (by simp)).trans HL.out) (World.cell?_alloc_new _ _ _ _) (World.cell?_alloc_new _ _ _ _) (fun X hX x hx=>(HSA.out X hX x hx).ch ((Ch.of_below H3.out).trans (Ch.of_below H4.out))) (fun X hX x hx hy=>(HSB.out X hX x hx hy).ch ((Ch.of_below H3.out).trans (Ch.of_below H4.out)))).mono ?_
     rintro e w6 ⟨rfl,n11,C6⟩
     clear HT HE1 HE2
     go_wp2_with (go_at_call 116;refine C6.out.mono ?_;rintro e w7 ⟨rfl,hE⟩;(have K1:Hid _:=hE);clear hE C6)
     go_end0
     exact ⟨rfl,K1.out⟩

def missL (s:St) (p:Nat × Int) (k2 inst:Nat):St:={ s with listed:=s.listed.filter (fun x=>!(x.kk==p)),msgs:=chgL (fun x=>x.kk==k2) (fun x=>{ x with its:=x.its.filter (fun z=>!(z==inst)) }) s.msgs }
def eMissed (s:St) (r:Rc):St:=match s.listed.find? (fun x=>x.kk==(r.k1,r.n)) with
 | some l=>missL s (r.k1,r.n) r.k2 l.inst
 | none=>s
theorem eMissed_yes {s:St} {r:Rc} {i:Nat} (hF:s.listed.findIdx? (fun x=>x.kk==(r.k1,r.n))=some i) (hi:i<s.listed.length):eMissed s.e r=missL s.e (r.k1,r.n) r.k2 s.listed[i].inst:=by
 obtain ⟨_,h1⟩:=find_of hF
 unfold eMissed
 simp only [St.e,findL_e,h1,Option.map_some]
 rfl
theorem eMissed_no {s:St} {r:Rc} (h:s.listed.find? (fun x=>x.kk==(r.k1,r.n))=none):eMissed s.e r=s.e:=by
 unfold eMissed
 simp only [St.e,findL_e,h,Option.map_none]
theorem changeM_miss {B : Nat} {w w1 : World} {sb k2 lb inst : Nat} {s : St} {caps2 : Array Value} (h : Sx B w1 sb s) (hB : B ≤ w1.heap.size) (hn : s.msgs.length ≤ 4611686018427387904) (hin : ∀ x ∈ s.msgs, x.its.length ≤ 4611686018427387904) (hsay : ∀ x ∈ s.msgs, Say (fun _ => False) w1 168 caps2 #[.agg (Ms.c x).toArray] (x.kk == k2)) (hw : Below B w w1) (hl : w1.cell? ⟨lb, 1, none⟩ = some (.int .u64 (inst : Int))) (hfar : ∀ x ∈ s.msgs, ∀ g, x.iv.ownBlock = some g → g ≠ lb) :
   Calls Tryz.prog 116 #[s.vMs,.func (.func 168) #[] caps2,.func (.func 119) #[] #[.pointer (some ⟨lb,0,none⟩)]] w1 fun e w'=>e=.returned (.tuple #[])∧Eff B w sb { s.e with msgs:=chgL (fun x=>x.kk==k2) (fun x=>{ x with its:=x.its.filter (fun z=>!(z==inst)) }) s.e.msgs } w':=by
 have ekO:Ent0 168:=enters_of Tryz.func168 (by kernel_rfl) rfl
 have ekB:Ent0 119:=enters_of Tryz.func119 (by kernel_rfl) rfl
 cases hF:s.msgs.findIdx? (fun x=>x.kk==k2) with
 | none =>
   have hE:({ s.e with msgs:=chgL (fun x=>x.kk==k2) (fun x=>{ x with its:=x.its.filter (fun z=>!(z==inst)) }) s.e.msgs }:St)=s.e:=by
     have:s.e.msgs.findIdx? (fun x=>x.kk==k2)=none:=by
       simp only [St.e]
       rw [List.findIdx?_map]
       exact hF
     rw [chgL_none this]
   rw [hE]
   refine (changeMs_any (X:=fun _=>False) (caps:=caps2) (capb:=#[.pointer (some ⟨lb,0,none⟩)]) (fun x=>x.kk==k2) (fun _ _ _=>True) (Rr.row Ms.k h.rMs) hn ekO hsay ekB (fun W i b off cap _ hF'=>by rw [hF] at hF';cases hF')).mono ?_
   rintro e w' ⟨rfl,hC⟩
   unfold CgMs at hC
   rw [hF] at hC
   exact ⟨rfl,s,h.up hC,rfl,hw.trans (hC.mono hB)⟩
 | some i =>
   have hi:=(List.findIdx?_eq_some_iff_getElem.1 hF).1
   refine changeM_its (w:=w) (k2:=k2) (i:=i) (fb:=119) (caps2:=caps2) (capb:=#[.pointer (some ⟨lb,0,none⟩)]) (fun its=>its.filter (fun z=>!(z==inst))) h hB hn hsay ekB hF hi hw ?_
   intro W b hW hSW hbo hc hf hrow hoff
   exact missed1_any hc hf ((hW.cell (p:=⟨lb,1,none⟩) (World.block_lt_of_cell? _ _ hl)).trans hl) hrow (hin _ (List.getElem_mem hi)) hoff (hfar _ (List.getElem_mem hi))
theorem miss_tail {B : Nat} {w W3 : World} {sb lb k2 inst : Nat} {p : Nat × Int} {s : St} {caps1 : Array Value} (h : Sx B w sb s) (hB : B ≤ w.heap.size) (hnL : s.listed.length ≤ 4611686018427387904) (hnM : s.msgs.length ≤ 4611686018427387904) (hin : ∀ x ∈ s.msgs, x.its.length ≤ 4611686018427387904)
   (hw:Below w.heap.size w W3) (hlb:w.heap.size<lb) (cl:W3.cell? ⟨lb,1,none⟩=some (.int .u64 (inst:Int))) (cr:W3.cell? ⟨w.heap.size,5,none⟩=some (.int .u64 (k2:Int))) (hs1:(∀(X:Nat→Prop),(∀g,X g→g<w.heap.size)→∀x:Ls,(∃a n c,x.vv=.slice a n c)→Say X W3 169 caps1 #[.agg (Ls.c x).toArray] (x.kk==p))) :
   Calls Tryz.prog 118 #[s.vLs,.func (.func 169) #[] caps1] W3 fun e w4=>∃a n c,e=.returned (.slice a n c)∧((∃u,w4.cell? ⟨sb,10,none⟩=some u)∧w4.frozen? ⟨sb,10,none⟩=false)∧Hid (∀W,Below (w4.setCell ⟨sb,10,none⟩ (.slice a n c)).heap.size (w4.setCell ⟨sb,10,none⟩ (.slice a n c)) W→W.cell? ⟨sb,11,none⟩=some s.vMs∧W.cell? ⟨w.heap.size,5,none⟩=some (.int .u64 (k2:Int))∧w.heap.size≤W.heap.size) ∧
     Hid (∀w5 caps2,Below (w4.setCell ⟨sb,10,none⟩ (.slice a n c)).heap.size (w4.setCell ⟨sb,10,none⟩ (.slice a n c)) w5→(∀(X:Nat→Prop),(∀g,X g→g<w.heap.size)→∀x:Ms,x.vv.oneCell'=true→x.iv.oneCell'=true→Say X w5 168 caps2 #[.agg (Ms.c x).toArray] (x.kk==k2))→Calls Tryz.prog 116 #[s.vMs,.func (.func 168) #[] caps2,.func (.func 119) #[] #[.pointer (some ⟨lb,0,none⟩)]] w5 fun e w'=>e=.returned (.tuple #[])∧Eff B w sb (missL s.e p k2 inst) w'):=by
 have ekO:Ent0 169:=enters_of Tryz.func169 (by kernel_rfl) rfl
 have hS3:=h.up hw
 have hsv:=Own.sv (Own.sub h (List.sublist_cons_self _ _))
 have hlt:=h.lt
 have hwl:=hw.size
 refine (takeLs_any (B:=B) (caps:=caps1) (fun x=>x.kk==p) hS3.rLs hnL ekO (fun x hx=>hs1 (fun g=>s.vLs.ownBlock=some g) (fun g hg=>(h.rLs.lt g hg).2) x (by obtain ⟨a,c,e,-⟩:=hsv.iLs x hx;exact ⟨a,_,c,e⟩)) (fun x hx=>by obtain ⟨a,c,e,-⟩:=hsv.iLs x hx;exact ⟨a,_,c,e⟩)).mono ?_
 rintro e w4 ⟨v4,rfl,q4,c4,o4⟩
 obtain ⟨a,c,rfl,-⟩:=row_slice q4
 obtain ⟨k1,k2',k3⟩:=hS3.flLs q4 c4 (fun g hg=>.inl (by rw [← o4];exact hg))
 refine ⟨a,_,c,rfl,⟨⟨_,k2' 10 _ rfl⟩,k3 10⟩,?_,?_⟩
 · intro W hW
   have hC:Ch (fun g=>g<w.heap.size) W3 (w4.setCell ⟨sb,10,none⟩ (.slice a (List.filter (fun x=>!(x.kk==p)) s.listed).length c)):=(c4.mono (fun g _ e=>(h.rLs.lt g e).2)).setCell _ _ (fun _=>hlt.2)
   refine ⟨(k1.up hW).cell (j:=11) rfl,(hC.trans (Ch.of_below hW)).cell cr (by simp),?_⟩
   have:=hC.size
   have:=hW.size
   omega
 · intro w5 caps2 hW hs2
   have hC:Ch (fun g=>g<w.heap.size) W3 (w4.setCell ⟨sb,10,none⟩ (.slice a (List.filter (fun x=>!(x.kk==p)) s.listed).length c)):=(c4.mono (fun g _ e=>(h.rLs.lt g e).2)).setCell _ _ (fun _=>hlt.2)
   have hBw:Below B w (w4.setCell ⟨sb,10,none⟩ (.slice a (List.filter (fun x=>!(x.kk==p)) s.listed).length c)):=by
     have b1:Below B w w4:=(hw.mono hB).trans (Own.ge c4 (Nat.le_trans hB hw.size) (fun g hg=>(hS3.rLs.lt g hg).1))
     exact b1.trans (((Ch.refl (fun b=>b=sb) w4).setCell ⟨sb,10,none⟩ _ (fun _=>rfl)).below (Nat.le_trans hB (Nat.le_trans hw.size c4.size)) (fun g hg e=>by omega))
   have hcs:=hC.size
   refine (changeM_miss (w:=w) (k2:=k2) (lb:=lb) (inst:=inst) (caps2:=caps2) (k1.up hW) (by have:=hW.size;omega) hnM hin (fun x hx=>hs2 (fun _=>False) (fun _ e=>e.elim) x (hsv.iMs x hx).oneCell (hsv.qMs x hx).oneCell) (hBw.trans (hW.mono (by omega))) ((hC.trans (Ch.of_below hW)).cell cl (by simp only;omega)) (fun x hx g hg e=>?_)).mono ?_
   · have hq:(Ms.q x).ok B w:=h.own _ (by
       refine List.mem_cons_of_mem _ (List.mem_append_right _ ?_)
       unfold St.inner
       exact List.mem_append_right _ (List.mem_append_right _ (List.mem_append_right _ (List.mem_map_of_mem hx))))
     have:=(hq.lt g hg).2
     omega
   · rintro e w' ⟨rfl,t,t1,t2,t3⟩
     refine ⟨rfl,t,t1,?_,t3⟩
     rw [t2]
     simp only [St.e,missL,List.filter_map]
     rfl
theorem missed_any {B : Nat} {w : World} {sb : Nat} {s : St} {r : Rc} (h : Sx B w sb s) (hB : B ≤ w.heap.size) (hnL : s.listed.length ≤ 4611686018427387904) (hnM : s.msgs.length ≤ 4611686018427387904) (hin : ∀ x ∈ s.msgs, x.its.length ≤ 4611686018427387904) (hr : Rr 4 Vr.c w r.vv r.v) :
   Calls Tryz.prog 61 #[.pointer (some ⟨sb,0,none⟩),.agg r.cs.toArray] w fun e w'=>e=.returned (.tuple #[])∧Eff B w sb (eMissed s.e r) w':=by
 obtain ⟨ra,rp,hra,-⟩:=id hr
 obtain ⟨r0,r1,r2,r3,r4,r5,r6,r7,r8,r9,r10,r11,rvv,rv⟩:=r
 simp only at hra hr
 subst hra
 clear hr
 simp only [Rc.cs]
 generalize hrn:rv.length=rn at *
 have hbw:Below w.heap.size w (w.alloc (.cells #[.int .i64 r0,.int .i64 r1,.int .u64 (r2:Int),.int .i64 r3,.int .u64 (r4:Int),.int .u64 (r5:Int),.int .u64 (r6:Int),.int .i64 r7,.int .i64 r8,.string (S r9),.string (S r10),.string (S r11),.slice ra rn rp] 39)):=(Below.refl _ w).alloc nlr _
 have hcr:∀(j:Nat) (u:Value),([.int .i64 r0,.int .i64 r1,.int .u64 (r2:Int),.int .i64 r3,.int .u64 (r4:Int),.int .u64 (r5:Int),.int .u64 (r6:Int),.int .i64 r7,.int .i64 r8,.string (S r9),.string (S r10),.string (S r11),.slice ra rn rp]:List Value)[j]?=some u→(w.alloc (.cells #[.int .i64 r0,.int .i64 r1,.int .u64 (r2:Int),.int .i64 r3,.int .u64 (r4:Int),.int .u64 (r5:Int),.int .u64 (r6:Int),.int .i64 r7,.int .i64 r8,.string (S r9),.string (S r10),.string (S r11),.slice ra rn rp] 39)).cell? ⟨w.heap.size,j,none⟩=some u:=fun j u hj=>by
   rw [World.cell?_alloc_new];simpa using hj
 have hszR:(w.alloc (.cells #[.int .i64 r0,.int .i64 r1,.int .u64 (r2:Int),.int .i64 r3,.int .u64 (r4:Int),.int .u64 (r5:Int),.int .u64 (r6:Int),.int .i64 r7,.int .i64 r8,.string (S r9),.string (S r10),.string (S r11),.slice ra rn rp] 39)).heap.size=w.heap.size+1:=by simp
 have HS:Hid (∀W,Below (w.alloc (.cells #[.int .i64 r0,.int .i64 r1,.int .u64 (r2:Int),.int .i64 r3,.int .u64 (r4:Int),.int .u64 (r5:Int),.int .u64 (r6:Int),.int .i64 r7,.int .i64 r8,.string (S r9),.string (S r10),.string (S r11),.slice ra rn rp] 39)).heap.size (w.alloc (.cells #[.int .i64 r0,.int .i64 r1,.int .u64 (r2:Int),.int .i64 r3,.int .u64 (r4:Int),.int .u64 (r5:Int),.int .u64 (r6:Int),.int .i64 r7,.int .i64 r8,.string (S r9),.string (S r10),.string (S r11),.slice ra rn rp] 39)) W→W.cell? ⟨w.heap.size,0,none⟩=some (.int .i64 r0)∧W.cell? ⟨w.heap.size,1,none⟩=some (.int .i64 r1)∧W.cell? ⟨w.heap.size,2,none⟩=some (.int .u64 (r2:Int))∧W.cell? ⟨w.heap.size,3,none⟩=some (.int .i64 r3)∧W.cell? ⟨w.heap.size,4,none⟩=some (.int .u64 (r4:Int))∧W.cell? ⟨w.heap.size,5,none⟩=some (.int .u64 (r5:Int))∧W.cell? ⟨w.heap.size,6,none⟩=some (.int .u64 (r6:Int))∧W.cell? ⟨w.heap.size,7,none⟩=some (.int .i64 r7)∧W.cell? ⟨w.heap.size,8,none⟩=some (.int .i64 r8)∧W.cell? ⟨w.heap.size,9,none⟩=some (.string (S r9))∧W.cell? ⟨w.heap.size,10,none⟩=some (.string (S r10))∧W.cell? ⟨w.heap.size,11,none⟩=some (.string (S r11))∧W.cell? ⟨w.heap.size,12,none⟩=some (.slice ra rn rp)):=fun W hW=>⟨(hW.cell (p:=⟨w.heap.size,0,none⟩) (by simp)).trans (hcr 0 _ rfl),(hW.cell (p:=⟨w.heap.size,1,none⟩) (by simp)).trans (hcr 1 _ rfl),(hW.cell (p:=⟨w.heap.size,2,none⟩) (by simp)).trans (hcr 2 _ rfl),(hW.cell (p:=⟨w.heap.size,3,none⟩) (by simp)).trans (hcr 3 _ rfl),(hW.cell (p:=⟨w.heap.size,4,none⟩) (by simp)).trans (hcr 4 _ rfl),(hW.cell (p:=⟨w.heap.size,5,none⟩) (by simp)).trans (hcr 5 _ rfl),(hW.cell (p:=⟨w.heap.size,6,none⟩) (by simp)).trans (hcr 6 _ rfl),(hW.cell (p:=⟨w.heap.size,7,none⟩) (by simp)).trans (hcr 7 _ rfl),(hW.cell (p:=⟨w.heap.size,8,none⟩) (by simp)).trans (hcr 8 _ rfl),(hW.cell (p:=⟨w.heap.size,9,none⟩) (by simp)).trans (hcr 9 _ rfl),(hW.cell (p:=⟨w.heap.size,10,none⟩) (by simp)).trans (hcr 10 _ rfl),(hW.cell (p:=⟨w.heap.size,11,none⟩) (by simp)).trans (hcr 11 _ rfl),(hW.cell (p:=⟨w.heap.size,12,none⟩) (by simp)).trans (hcr 12 _ rfl)⟩
 have CP:=fun W=>placeOf_any W r0 r1 r3 r7 r8 r2 r4 r5 r6 r9 r10 r11 ra rn rp
 have CO1:=fun W=>ofLs_any (r4,r7) W
 have CO2:=fun W=>ofMs_any r5 W
 simp only [kP,kU] at CO1 CO2
 obtain ⟨b0,b1,b2,b3,b4,b5,b6,b7,b8,b9,b10,b11,b12⟩:=HS.out _ brf
 have hsv:=Own.sv (Own.sub h (List.sublist_cons_self _ _))
 have hslL:∀x∈s.listed,∃a n c,x.vv=.slice a n c:=fun x hx=>by obtain ⟨a,c,e,-⟩:=hsv.iLs x hx;exact ⟨a,_,c,e⟩
 have ekL:Ent0 169:=enters_of Tryz.func169 (by kernel_rfl) rfl
 have HH:Hid (Sx B w sb s):=h
 have HE1:Hid (∀x,fstLs (fun x=>x.kk==(r4,r7)) s.listed=(x,false)→eMissed s.e ⟨r0,r1,r2,r3,r4,r5,r6,r7,r8,r9,r10,r11,.slice ra rn rp,rv⟩=s.e):=fun x hx=>eMissed_no (fstLs_no hx)
 have HT : Hid (∀ (W3 : World) (lb : Nat) (caps1 : Array Value) (xl : Ls), fstLs (fun x => x.kk == (r4, r7)) s.listed = (xl, true) → Below w.heap.size w W3 → w.heap.size < lb → W3.cell? ⟨lb, 1, none⟩ = some (.int .u64 (xl.inst : Int)) → W3.cell? ⟨w.heap.size, 5, none⟩ = some (.int .u64 (r5 : Int)) → (∀ (X : Nat → Prop), (∀ g, X g → g < w.heap.size) → ∀ x : Ls, (∃ a n c, x.vv = .slice a n c) → Say X W3 169 caps1 #[.agg (Ls.c x).toArray] (x.kk == (r4, r7))) →
     Calls Tryz.prog 118 #[s.vLs,.func (.func 169) #[] caps1] W3 fun e w4=>∃a n c,e=.returned (.slice a n c)∧((∃u,w4.cell? ⟨sb,10,none⟩=some u)∧w4.frozen? ⟨sb,10,none⟩=false)∧Hid (∀W,Below (w4.setCell ⟨sb,10,none⟩ (.slice a n c)).heap.size (w4.setCell ⟨sb,10,none⟩ (.slice a n c)) W→W.cell? ⟨sb,11,none⟩=some s.vMs∧W.cell? ⟨w.heap.size,5,none⟩=some (.int .u64 (r5:Int))∧w.heap.size≤W.heap.size) ∧
       Hid (∀w5 caps2,Below (w4.setCell ⟨sb,10,none⟩ (.slice a n c)).heap.size (w4.setCell ⟨sb,10,none⟩ (.slice a n c)) w5→(∀(X:Nat→Prop),(∀g,X g→g<w.heap.size)→∀x:Ms,x.vv.oneCell'=true→x.iv.oneCell'=true→Say X w5 168 caps2 #[.agg (Ms.c x).toArray] (x.kk==r5))→Calls Tryz.prog 116 #[s.vMs,.func (.func 168) #[] caps2,.func (.func 119) #[] #[.pointer (some ⟨lb,0,none⟩)]] w5 fun e w'=>e=.returned (.tuple #[])∧Eff B w sb (eMissed s.e ⟨r0,r1,r2,r3,r4,r5,r6,r7,r8,r9,r10,r11,.slice ra rn rp,rv⟩) w')):=by
   intro W3 lb caps1 xl hl hw hlb cl cr hs1
   obtain ⟨i,hi,hF,hxl⟩:=fstLs_yes hl
   subst hxl
   have hes:=eMissed_yes (s:=s) (r:=⟨r0,r1,r2,r3,r4,r5,r6,r7,r8,r9,r10,r11,.slice ra rn rp,rv⟩) hF hi
   rw [hes]
   exact miss_tail (caps1:=caps1) h hB hnL hnM hin hw hlb cl cr hs1
 have HF1:Hid (∀(W:World) (caps1:Array Value),Below w.heap.size w W→(∀(X:Nat→Prop),(∀g,X g→g<w.heap.size)→∀x:Ls,(∃a n c,x.vv=.slice a n c)→Say X W 169 caps1 #[.agg (Ls.c x).toArray] (x.kk==(r4,r7)))→Calls Tryz.prog 112 #[s.vLs,.func (.func 169) #[] caps1] W fun e w'=>e=.returned (.tuple #[.agg (Ls.c (fstLs (fun x=>x.kk==(r4,r7)) s.listed).1).toArray,.bool (fstLs (fun x=>x.kk==(r4,r7)) s.listed).2])∧Below W.heap.size W w'):=fun W caps1 hW hs1=>firstLs_any (X:=fun _=>False) (caps:=caps1) _ (Rr.row Ls.k (h.up hW).rLs) hnL ekL (fun x hx=>hs1 _ (fun _ e=>e.elim) x (hslL x hx)) hslL
 obtain ⟨la,ln,lc,hlv⟩:=fstLs_vv (q:=fun x=>x.kk==(r4,r7)) hslL
 obtain ⟨aL,cL,hsL,-⟩:=row_slice h.rLs
 obtain ⟨aM,cM,hsM,-⟩:=row_slice h.rMs
 have HSL:Hid (∀W,Below w.heap.size w W→W.cell? ⟨sb,10,none⟩=some s.vLs):=fun W hW=>(h.up hW).cell (j:=10) rfl
 rw [hsL] at HSL HF1
 rw [hsL,hsM] at HT
 clear h hcr hslL ekL hsv hin hnL hnM hsL hsM
 generalize fstLs (fun x=>x.kk==(r4,r7)) s.listed=pl at *
 obtain ⟨⟨l0,l1,l2,l3,l4,l5,l6,lv⟩,isL⟩:=pl
 simp only at hlv
 subst hlv
 simp only [Ls.c] at HF1
 have hlt:=HH.out.lt
 have HS5:Hid (∀W,Below (w.alloc (.cells #[.int .i64 r0,.int .i64 r1,.int .u64 (r2:Int),.int .i64 r3,.int .u64 (r4:Int),.int .u64 (r5:Int),.int .u64 (r6:Int),.int .i64 r7,.int .i64 r8,.string (S r9),.string (S r10),.string (S r11),.slice ra rn rp] 39)).heap.size (w.alloc (.cells #[.int .i64 r0,.int .i64 r1,.int .u64 (r2:Int),.int .i64 r3,.int .u64 (r4:Int),.int .u64 (r5:Int),.int .u64 (r6:Int),.int .i64 r7,.int .i64 r8,.string (S r9),.string (S r10),.string (S r11),.slice ra rn rp] 39)) W→W.cell? ⟨w.heap.size,5,none⟩=some (.int .u64 (r5:Int))):=fun W hW=>(HS.out W hW).2.2.2.2.2.1
 cases isL
 all_goals
   go_enter Tryz.func61,Tryz.ntmps61
   go_wp2_with fail
   generalize (w.alloc (.cells #[.int .i64 r0,.int .i64 r1,.int .u64 (r2:Int),.int .i64 r3,.int .u64 (r4:Int),.int .u64 (r5:Int),.int .u64 (r6:Int),.int .i64 r7,.int .i64 r8,.string (S r9),.string (S r10),.string (S r11),.slice ra rn rp] 39))=W1 at *
   go_wp2_with (first
     | (go_at_call 95;refine (CP _).mono ?_;rintro e w0 ⟨rfl,hb0⟩;(have hX0:Below W1.heap.size W1 w0:=hb0);clear hb0 CP b0 b1 b2 b3 b4 b5 b6 b7 b8 b9 b10 b11 b12 HS)
     | (go_at_call 111;refine (CO1 _).mono ?_;rintro e w1 ⟨caps1,rfl,hsay1,hb1⟩;(have hX1:Below W1.heap.size W1 w1:=bel_of hX0 hb1 nlr);(have hbw1:Below w.heap.size w w1:=bel_of hbw hX1 nlr);(have HSA:Hid (∀(X:Nat→Prop),(∀g,X g→g<w.heap.size)→∀x:Ls,(∃a n c,x.vv=.slice a n c)→Say X w1 169 caps1 #[.agg (Ls.c x).toArray] (x.kk==(r4,r7))):=fun X hX x hx=>hsay1 X (fun g hg=>by (have:=hX g hg;have:=hX0.size;omega)) x hx);(have m10:=HSL.out w1 hbw1);(have CF1:=HF1.out w1 caps1 hbw1 HSA.out);(have H1:Hid (Below w.heap.size w w1):=hbw1);(have HX1:Hid (Below W1.heap.size W1 w1):=hX1);clear hb1 CO1 hsay1 HF1 hbw1 hX0 hX1)
     | (go_at_call 112;refine CF1.mono ?_;rintro e w2 ⟨rfl,hb2⟩;(have H2:Hid (Below w1.heap.size w1 (w2.alloc (.cells #[.int .u64 (l0:Int),.int .u64 (l1:Int),.int .i64 l2,.string (S l3),.string (S l4),.int .u64 (l5:Int),.slice la ln lc] 81))):=hb2.trans ((Below.refl _ w2).alloc hb2.size _));(have HW3:Hid (Below w.heap.size w (w2.alloc (.cells #[.int .u64 (l0:Int),.int .u64 (l1:Int),.int .i64 l2,.string (S l3),.string (S l4),.int .u64 (l5:Int),.slice la ln lc] 81))):=bel_of H1.out H2.out nlr);(have t10:=HSL.out _ HW3.out);(have HQ:Hid (w.heap.size<w2.heap.size):=by (show _<_;have e1:=HX1.out.size;have e2:=hb2.size;omega));(have HL:Hid ((w2.alloc (.cells #[.int .u64 (l0:Int),.int .u64 (l1:Int),.int .i64 l2,.string (S l3),.string (S l4),.int .u64 (l5:Int),.slice la ln lc] 81)).cell? ⟨w2.heap.size,1,none⟩=some (.int .u64 (l1:Int))):=World.cell?_alloc_new _ _ _ _);clear hb2 CF1 m10)
     | (go_at_call 118;refine (HT.out (w2.alloc (.cells #[.int .u64 (l0:Int),.int .u64 (l1:Int),.int .i64 l2,.string (S l3),.string (S l4),.int .u64 (l5:Int),.slice la ln lc] 81)) w2.heap.size caps1 ⟨l0,l1,l2,l3,l4,l5,.slice la ln lc,lv⟩ rfl HW3.out HQ.out HL.out (HS5.out _ (bel_of HX1.out H2.out nlr)) (fun X hX x hx=>(HSA.out X hX x hx).ch (Ch.of_below H2.out))).mono ?_;rintro e w4 ⟨a4,n4,c4,rfl,⟨⟨u4,p4⟩,g4⟩,HR,HCM⟩;obtain ⟨n11,n5,-⟩:=HR.out _ brf;clear HT t10))
 · (try simp only [Exit.inBlock,Exit.then])
   refine bodyPost_ret (results_none rfl _ _ _) rfl ?_
   exact ⟨rfl,s,HH.out.up HW3.out,(HE1.out _ rfl).symm,HW3.out.mono hB⟩
 · generalize (w4.setCell ⟨sb,10,none⟩ (.slice a4 n4 c4))=W4 at *
   go_region_with (first
     | (go_at_call 110;refine (CO2 _).mono ?_;rintro e w5 ⟨caps2,rfl,hsay2,hb5⟩;(have hX5:Below W4.heap.size W4 w5:=(Below.refl _ W4).drew.trans (hb5.mono nlr));obtain ⟨q11,q5,-⟩:=HR.out w5 hX5;(have hz5:=(HR.out W4 brf).2.2);(have CA:=HCM.out w5 caps2 hX5 (fun X hX x hx hy=>hsay2 X (fun g hg=>by (have:=hX g hg;show g<W4.heap.size;omega)) x hx hy));clear hb5 CO2 hsay2 HCM)
     | (go_at_call 116;refine CA.mono ?_;rintro e w7 ⟨rfl,hE⟩;(have K1:Hid _:=hE);clear hE CA))
   all_goals
     go_wp2
     go_end0
     exact ⟨rfl,K1.out⟩
end Go.Proofs.YtmfempdcpoeicaaGreat.f13
