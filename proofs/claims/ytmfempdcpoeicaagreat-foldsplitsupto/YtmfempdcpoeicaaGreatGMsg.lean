/-
  Messages that are put.
-/
import Derived.Test.YtmfempdcpoeicaaGreatF13Put
import Derived.Test.YtmfempdcpoeicaaGreatF13In5
import Derived.Test.YtmfempdcpoeicaaGreatF13Ent
import Derived.Deep.RegionHeld3
import Derived.Deep.RegionWith
set_option maxHeartbeats 8000000
set_option maxRecDepth 100000
namespace Go.Proofs.YtmfempdcpoeicaaGreat.f13
open Go.RowKit Go.Shelf Go.Sort
open Go.Lib hiding intOf

theorem putMs1_any (x : Ms) (m : Nat) {w : World} {lb mb kb : Nat} (hl : w.cell? ⟨lb, 0, none⟩ = some (.func (.func 74) #[] #[])) (hm : w.cell? ⟨mb, 0, none⟩ = some (kU m)) (hk : w.cell? ⟨kb, 0, none⟩ = some (.func (.func 108) #[] #[])) (h5 : x.vv.oneCell' = true) (h6 : x.iv.oneCell' = true) :
   Calls Tryz.prog 165 #[.agg (Ms.c x).toArray,.pointer (some ⟨lb,0,none⟩),.pointer (some ⟨mb,0,none⟩),.pointer (some ⟨kb,0,none⟩)] w fun e w'=>e=.returned (.bool (ltU m x.kk))∧Below w.heap.size w w':=by
 have CK:=fun W=>keyMs_any x W h5 h6
 have CL:=fun W=>lessU_any m x.kk W
 have hll:=World.block_lt_of_cell? w _ hl
 have hml:=World.block_lt_of_cell? w _ hm
 have hkl:=World.block_lt_of_cell? w _ hk
 obtain ⟨x0,x1,x2,x3,x4,x5,x6,_,_⟩:=x
 simp only [Ms.c,Ms.kk,kU] at CK CL hm ⊢
 have hb0:Below w.heap.size w (w.alloc (.cells #[.int .u64 (x0:Int),.string (S x1),.string (S x2),.string (S x3),.int .i64 x4,x5,x6] 87)):=(Below.refl _ w).alloc nlr _
 have HS:Hid (∀W,Below (w.alloc (.cells #[.int .u64 (x0:Int),.string (S x1),.string (S x2),.string (S x3),.int .i64 x4,x5,x6] 87)).heap.size (w.alloc (.cells #[.int .u64 (x0:Int),.string (S x1),.string (S x2),.string (S x3),.int .i64 x4,x5,x6] 87)) W→W.cell? ⟨lb,0,none⟩=some (.func (.func 74) #[] #[])∧W.cell? ⟨mb,0,none⟩=some (.int .u64 (m:Int))∧W.cell? ⟨kb,0,none⟩=some (.func (.func 108) #[] #[])∧W.cell? ⟨w.heap.size,0,none⟩=some (.int .u64 (x0:Int))∧W.cell? ⟨w.heap.size,1,none⟩=some (.string (S x1))∧W.cell? ⟨w.heap.size,2,none⟩=some (.string (S x2))∧W.cell? ⟨w.heap.size,3,none⟩=some (.string (S x3))∧W.cell? ⟨w.heap.size,4,none⟩=some (.int .i64 x4)∧W.cell? ⟨w.heap.size,5,none⟩=some (x5)∧W.cell? ⟨w.heap.size,6,none⟩=some (x6)):=by
   intro W hW
   have hsz:w.heap.size<(w.alloc (.cells #[.int .u64 (x0:Int),.string (S x1),.string (S x2),.string (S x3),.int .i64 x4,x5,x6] 87)).heap.size:=by simp
   exact ⟨(hW.cell (p:=⟨lb,0,none⟩) (by simp at hll ⊢;omega)).trans ((hb0.cell (p:=⟨lb,0,none⟩) hll).trans hl),(hW.cell (p:=⟨mb,0,none⟩) (by simp at hml ⊢;omega)).trans ((hb0.cell (p:=⟨mb,0,none⟩) hml).trans hm),(hW.cell (p:=⟨kb,0,none⟩) (by simp at hkl ⊢;omega)).trans ((hb0.cell (p:=⟨kb,0,none⟩) hkl).trans hk),(hW.cell (p:=⟨w.heap.size,0,none⟩) hsz).trans (World.cell?_alloc_new _ _ _ _),(hW.cell (p:=⟨w.heap.size,1,none⟩) hsz).trans (World.cell?_alloc_new _ _ _ _),(hW.cell (p:=⟨w.heap.size,2,none⟩) hsz).trans (World.cell?_alloc_new _ _ _ _),(hW.cell (p:=⟨w.heap.size,3,none⟩) hsz).trans (World.cell?_alloc_new _ _ _ _),(hW.cell (p:=⟨w.heap.size,4,none⟩) hsz).trans (World.cell?_alloc_new _ _ _ _),(hW.cell (p:=⟨w.heap.size,5,none⟩) hsz).trans (World.cell?_alloc_new _ _ _ _),(hW.cell (p:=⟨w.heap.size,6,none⟩) hsz).trans (World.cell?_alloc_new _ _ _ _)⟩
 have B1:Hid (Below w.heap.size w (w.alloc (.cells #[.int .u64 (x0:Int),.string (S x1),.string (S x2),.string (S x3),.int .i64 x4,x5,x6] 87))):=hb0
 clear hb0 hk hm hl hkl hml hll
 go_enter Tryz.func165,Tryz.ntmps165
 go_wp2
 generalize (w.alloc (.cells #[.int .u64 (x0:Int),.string (S x1),.string (S x2),.string (S x3),.int .i64 x4,x5,x6] 87))=W1 at *
 obtain ⟨c0,c1,c2,c3,c4,c5,c6,c7,c8,c9⟩:=HS.out _ brf
 go_region_held3 (fun W=>W.cell? ⟨lb,0,none⟩=some (.func (.func 74) #[] #[])∧W.cell? ⟨mb,0,none⟩=some (.int .u64 (m:Int))∧W.cell? ⟨kb,0,none⟩=some (.func (.func 108) #[] #[])∧W.cell? ⟨w.heap.size,0,none⟩=some (.int .u64 (x0:Int))∧W.cell? ⟨w.heap.size,1,none⟩=some (.string (S x1))∧W.cell? ⟨w.heap.size,2,none⟩=some (.string (S x2))∧W.cell? ⟨w.heap.size,3,none⟩=some (.string (S x3))∧W.cell? ⟨w.heap.size,4,none⟩=some (.int .i64 x4)∧W.cell? ⟨w.heap.size,5,none⟩=some (x5)∧W.cell? ⟨w.heap.size,6,none⟩=some (x6))
   (first | go_keep | exact HS.out _ brf | exact HS.out _ brf.drew | exact HS.out _ hX)
   (first
     | (go_at_call 108;refine (CK _).mono ?_;rintro e u1 ⟨rfl,hX0⟩;(have hX:Below W1.heap.size W1 u1:=(Below.refl _ W1).drew.trans (hX0.mono nlr));(have B2:Hid (Below w.heap.size w u1):=bel_of B1.out hX nlr);clear hX0)
     | (go_at_call 74;refine (CL _).mono ?_;rintro e u2 ⟨rfl,hu2⟩;rw [hu2];clear hu2))
 all_goals
   go_wp2
   go_ret
   exact ⟨by simp,B2.out⟩

def PtMs (B:Nat) (w:World) (v:Value) (l:List Ms) (e:Ending) (w':World):Prop:=∃v',e=.returned v'∧w'.ownsRow B 87 7 v' l.length (l.flatMap Ms.c)∧Ch (fun g=>v.ownBlock=some g) w w'∧∀g,v'.ownBlock=some g→v.ownBlock=some g∨w.heap.size≤g
theorem putMs_any {B : Nat} {w : World} {v : Value} {l : List Ms} (x : Ms) (h : w.ownsRow B 87 7 v l.length (l.flatMap Ms.c)) (hB : B ≤ w.heap.size) (hbig : (l.length + 1) * 112 ≤ 211106232528000) (s5 : ∃ a n c, x.vv = .slice a n c) (o5 : ∀ y ∈ l, y.vv.oneCell' = true) (s6 : ∃ a n c, x.iv = .slice a n c) (o6 : ∀ y ∈ l, y.iv.oneCell' = true) :
   Calls Tryz.prog 107 #[v,.agg (Ms.c x).toArray,(.func (.func 108) #[] #[]),(.func (.func 74) #[] #[])] w (PtMs B w v (putL Ms.kk ltU l x)):=by
 have hn:l.length≤4611686018427387904:=by omega
 obtain ⟨a0,c0,hs,-,hnc,hc63⟩:=row_slice h
 subst hs
 obtain ⟨sa5,sn5,sc5,s5⟩:=s5
 obtain ⟨sa6,sn6,sc6,s6⟩:=s6
 have CK:=fun W=>keyMs_any x W (by rw [s5];rfl) (by rw [s6];rfl)
 have CO:=fun W=>ofMs_any x.kk W
 have HP1:=fun (y:Ms) (o5:y.vv.oneCell'=true) (o6:y.iv.oneCell'=true) (W:World) (lb mb kb:Nat) (a1:W.cell? ⟨lb,0,none⟩=some (.func (.func 74) #[] #[])) (a2:W.cell? ⟨mb,0,none⟩=some (kU x.kk)) (a3:W.cell? ⟨kb,0,none⟩=some (.func (.func 108) #[] #[]))=>putMs1_any y x.kk a1 a2 a3 o5 o6
 have HR:Hid (w.ownsRow B 87 7 (.slice a0 l.length c0) l.length (l.flatMap Ms.c)):=h
 have HX:Hid (x=x):=rfl
 obtain ⟨x0,x1,x2,x3,x4,x5,x6,z0,z1⟩:=x
 simp only at s5
 subst s5
 simp only at s6
 subst s6
 simp only [Ms.c,Ms.kk,kU] at CK CO HP1 ⊢
 have HS:Hid (∀W,Below (((w.alloc (.cells #[.int .u64 (x0:Int),.string (S x1),.string (S x2),.string (S x3),.int .i64 x4,.slice sa5 sn5 sc5,.slice sa6 sn6 sc6] 87)).alloc (.cells #[(.func (.func 108) #[] #[])] 159)).alloc (.cells #[(.func (.func 74) #[] #[])] 118)).heap.size (((w.alloc (.cells #[.int .u64 (x0:Int),.string (S x1),.string (S x2),.string (S x3),.int .i64 x4,.slice sa5 sn5 sc5,.slice sa6 sn6 sc6] 87)).alloc (.cells #[(.func (.func 108) #[] #[])] 159)).alloc (.cells #[(.func (.func 74) #[] #[])] 118)) W→W.cell? ⟨w.heap.size,0,none⟩=some (.int .u64 (x0:Int))∧W.cell? ⟨w.heap.size,1,none⟩=some (.string (S x1))∧W.cell? ⟨w.heap.size,2,none⟩=some (.string (S x2))∧W.cell? ⟨w.heap.size,3,none⟩=some (.string (S x3))∧W.cell? ⟨w.heap.size,4,none⟩=some (.int .i64 x4)∧W.cell? ⟨w.heap.size,5,none⟩=some (.slice sa5 sn5 sc5)∧W.cell? ⟨w.heap.size,6,none⟩=some (.slice sa6 sn6 sc6)∧W.cell? ⟨w.heap.size+1,0,none⟩=some (.func (.func 108) #[] #[])∧W.cell? ⟨w.heap.size+1+1,0,none⟩=some (.func (.func 74) #[] #[])):=by
   intro W hW
   have e9:(((w.alloc (.cells #[.int .u64 (x0:Int),.string (S x1),.string (S x2),.string (S x3),.int .i64 x4,.slice sa5 sn5 sc5,.slice sa6 sn6 sc6] 87)).alloc (.cells #[(.func (.func 108) #[] #[])] 159)).alloc (.cells #[(.func (.func 74) #[] #[])] 118)).heap.size=w.heap.size+3:=by simp
   rw [e9] at hW
   refine ⟨?_,?_,?_,?_,?_,?_,?_,?_,?_⟩
   · exact (hW.cell (p:=⟨w.heap.size,0,none⟩) (by simp only;omega)).trans (by go_simp)
   · exact (hW.cell (p:=⟨w.heap.size,1,none⟩) (by simp only;omega)).trans (by go_simp)
   · exact (hW.cell (p:=⟨w.heap.size,2,none⟩) (by simp only;omega)).trans (by go_simp)
   · exact (hW.cell (p:=⟨w.heap.size,3,none⟩) (by simp only;omega)).trans (by go_simp)
   · exact (hW.cell (p:=⟨w.heap.size,4,none⟩) (by simp only;omega)).trans (by go_simp)
   · exact (hW.cell (p:=⟨w.heap.size,5,none⟩) (by simp only;omega)).trans (by go_simp)
   · exact (hW.cell (p:=⟨w.heap.size,6,none⟩) (by simp only;omega)).trans (by go_simp)
   · exact (hW.cell (p:=⟨w.heap.size+1,0,none⟩) (by simp only;omega)).trans (by go_simp)
   · exact (hW.cell (p:=⟨w.heap.size+1+1,0,none⟩) (by simp only;omega)).trans (by go_simp)
 have B0:Hid (Below w.heap.size w (((w.alloc (.cells #[.int .u64 (x0:Int),.string (S x1),.string (S x2),.string (S x3),.int .i64 x4,.slice sa5 sn5 sc5,.slice sa6 sn6 sc6] 87)).alloc (.cells #[(.func (.func 108) #[] #[])] 159)).alloc (.cells #[(.func (.func 74) #[] #[])] 118))):=(((Below.refl _ w).alloc nlr _).alloc (by simp) _).alloc (by simp;omega) _
 have putm:∀{w1:World} (HS:∀W,Below (((w.alloc (.cells #[.int .u64 (x0:Int),.string (S x1),.string (S x2),.string (S x3),.int .i64 x4,.slice sa5 sn5 sc5,.slice sa6 sn6 sc6] 87)).alloc (.cells #[(.func (.func 108) #[] #[])] 159)).alloc (.cells #[(.func (.func 74) #[] #[])] 118)).heap.size (((w.alloc (.cells #[.int .u64 (x0:Int),.string (S x1),.string (S x2),.string (S x3),.int .i64 x4,.slice sa5 sn5 sc5,.slice sa6 sn6 sc6] 87)).alloc (.cells #[(.func (.func 108) #[] #[])] 159)).alloc (.cells #[(.func (.func 74) #[] #[])] 118)) W→W.cell? ⟨w.heap.size,0,none⟩=some (.int .u64 (x0:Int))∧W.cell? ⟨w.heap.size,1,none⟩=some (.string (S x1))∧W.cell? ⟨w.heap.size,2,none⟩=some (.string (S x2))∧W.cell? ⟨w.heap.size,3,none⟩=some (.string (S x3))∧W.cell? ⟨w.heap.size,4,none⟩=some (.int .i64 x4)∧W.cell? ⟨w.heap.size,5,none⟩=some (.slice sa5 sn5 sc5)∧W.cell? ⟨w.heap.size,6,none⟩=some (.slice sa6 sn6 sc6)∧W.cell? ⟨w.heap.size+1,0,none⟩=some (.func (.func 108) #[] #[])∧W.cell? ⟨w.heap.size+1+1,0,none⟩=some (.func (.func 74) #[] #[])),Below (((w.alloc (.cells #[.int .u64 (x0:Int),.string (S x1),.string (S x2),.string (S x3),.int .i64 x4,.slice sa5 sn5 sc5,.slice sa6 sn6 sc6] 87)).alloc (.cells #[(.func (.func 108) #[] #[])] 159)).alloc (.cells #[(.func (.func 74) #[] #[])] 118)).heap.size (((w.alloc (.cells #[.int .u64 (x0:Int),.string (S x1),.string (S x2),.string (S x3),.int .i64 x4,.slice sa5 sn5 sc5,.slice sa6 sn6 sc6] 87)).alloc (.cells #[(.func (.func 108) #[] #[])] 159)).alloc (.cells #[(.func (.func 74) #[] #[])] 118)) w1→∀W,Below (w1.alloc (.cells #[.int .u64 (x0:Int)] 22)).heap.size (w1.alloc (.cells #[.int .u64 (x0:Int)] 22)) W→(W.cell? ⟨w.heap.size,0,none⟩=some (.int .u64 (x0:Int))∧W.cell? ⟨w.heap.size,1,none⟩=some (.string (S x1))∧W.cell? ⟨w.heap.size,2,none⟩=some (.string (S x2))∧W.cell? ⟨w.heap.size,3,none⟩=some (.string (S x3))∧W.cell? ⟨w.heap.size,4,none⟩=some (.int .i64 x4)∧W.cell? ⟨w.heap.size,5,none⟩=some (.slice sa5 sn5 sc5)∧W.cell? ⟨w.heap.size,6,none⟩=some (.slice sa6 sn6 sc6)∧W.cell? ⟨w.heap.size+1,0,none⟩=some (.func (.func 108) #[] #[])∧W.cell? ⟨w.heap.size+1+1,0,none⟩=some (.func (.func 74) #[] #[])∧W.cell? ⟨w1.heap.size,0,none⟩=some (.int .u64 (x0:Int)))∧Below w.heap.size w W:=by
   intro w1 HS b1 W hW
   have b2:Below w1.heap.size w1 (w1.alloc (.cells #[.int .u64 (x0:Int)] 22)):=(Ch.below ((Ch.refl (fun b=>b=w1.heap.size) w1).alloc _) nlr (fun b hb e=>by omega))
   have b3:=bel_of b2 hW nlr
   have b4:=bel_of b1 b3 nlr
   have e1:(w1.alloc (.cells #[.int .u64 (x0:Int)] 22)).cell? ⟨w1.heap.size,0,none⟩=some (.int .u64 (x0:Int)):=by go_simp
   obtain ⟨q0,q1,q2,q3,q4,q5,q6,q7,q8⟩:=HS W b4
   exact ⟨⟨q0,q1,q2,q3,q4,q5,q6,q7,q8,(hW.cell (p:=⟨w1.heap.size,0,none⟩) (by simp)).trans e1⟩,bel_of B0.out b4 nlr⟩
 clear h HX
 cases hF:l.findIdx? (fun y=>y.kk==x0) with
 | some i =>
   have e1:fix (fun y=>y.kk==x0) l=(i:Int):=by unfold fix;rw [hF]
   have hi:=(List.findIdx?_eq_some_iff_getElem.1 hF).1
   have HE:Hid (putL Ms.kk ltU l ⟨x0,x1,x2,x3,x4,.slice sa5 sn5 sc5,.slice sa6 sn6 sc6,z0,z1⟩=l.set i ⟨x0,x1,x2,x3,x4,.slice sa5 sn5 sc5,.slice sa6 sn6 sc6,z0,z1⟩):=by show _=_;unfold putL;simp only [Ms.kk] at hF ⊢;rw [hF]
   obtain ⟨g,cap,hsl,hcap⟩:=row_any HR.out (by omega)
   obtain ⟨rfl,rfl⟩:a0=some ⟨g,0,none⟩∧c0=cap:=by injection hsl with e1 _ e2;exact ⟨e1,e2⟩
   have HN:Hid (∀W,Below w.heap.size w W→PtMs B w (.slice (some ⟨g,0,none⟩) l.length c0) (l.set i ⟨x0,x1,x2,x3,x4,.slice sa5 sn5 sc5,.slice sa6 sn6 sc6,z0,z1⟩) (.returned (.slice (some ⟨g,0,none⟩) l.length c0)) (W.setCells g (i*7) (Ms.c ⟨x0,x1,x2,x3,x4,.slice sa5 sn5 sc5,.slice sa6 sn6 sc6,z0,z1⟩))∧(∃u,W.cell? ⟨g,i*7+0,none⟩=some u)∧W.frozen? ⟨g,i*7+0,none⟩=false∧(∃u,W.cell? ⟨g,i*7+1,none⟩=some u)∧W.frozen? ⟨g,i*7+1,none⟩=false∧(∃u,W.cell? ⟨g,i*7+2,none⟩=some u)∧W.frozen? ⟨g,i*7+2,none⟩=false∧(∃u,W.cell? ⟨g,i*7+3,none⟩=some u)∧W.frozen? ⟨g,i*7+3,none⟩=false∧(∃u,W.cell? ⟨g,i*7+4,none⟩=some u)∧W.frozen? ⟨g,i*7+4,none⟩=false∧(∃u,W.cell? ⟨g,i*7+5,none⟩=some u)∧W.frozen? ⟨g,i*7+5,none⟩=false∧(∃u,W.cell? ⟨g,i*7+6,none⟩=some u)∧W.frozen? ⟨g,i*7+6,none⟩=false):=by
     intro W hW
     have r1:=(Ch.of_below (X:=fun _=>False) hW).row HR.out (fun _ _ e=>e)
     have cc:∀n,n<7→∃u,W.cell? ⟨g,i*7+n,none⟩=some u:=fun n hn=>by
       refine ⟨(Ms.c l[i])[n]'(by rw [Ms.k];exact hn),row_cell r1 ?_⟩
       rw [fm_get Ms.k _ i n hn,List.getElem?_eq_getElem hi]
       exact List.getElem?_eq_getElem _
     refine ⟨⟨_,rfl,?_,ch_setCells (Ch.of_below hW) g _ _ (fun _=>rfl),fun b hb=>.inl hb⟩,cc 0 (by omega),row_fro r1 _,cc 1 (by omega),row_fro r1 _,cc 2 (by omega),row_fro r1 _,cc 3 (by omega),row_fro r1 _,cc 4 (by omega),row_fro r1 _,cc 5 (by omega),row_fro r1 _,cc 6 (by omega),row_fro r1 _⟩
     rw [List.length_set]
     exact row_elem Ms.k r1 i hi _
   rw [HE.out]
   have hi0:(0:Int)≤(i:Int):=by omega
   have hil:(i:Int)<(l.length:Int):=by omega
   clear hF HP1
   have hzs:(((w.alloc (.cells #[.int .u64 (x0:Int),.string (S x1),.string (S x2),.string (S x3),.int .i64 x4,.slice sa5 sn5 sc5,.slice sa6 sn6 sc6] 87)).alloc (.cells #[(.func (.func 108) #[] #[])] 159)).alloc (.cells #[(.func (.func 74) #[] #[])] 118)).heap.size=w.heap.size+3:=by simp
   go_enter Tryz.func107,Tryz.ntmps107
   go_wp2
   generalize (((w.alloc (.cells #[.int .u64 (x0:Int),.string (S x1),.string (S x2),.string (S x3),.int .i64 x4,.slice sa5 sn5 sc5,.slice sa6 sn6 sc6] 87)).alloc (.cells #[(.func (.func 108) #[] #[])] 159)).alloc (.cells #[(.func (.func 74) #[] #[])] 118))=Wz at *
   obtain ⟨i0c,i1c,i2c,i3c,i4c,i5c,i6c,i7c,i8c⟩:=HS.out _ brf
   go_wp2_with (first
     | (go_at_call 108;refine (CK _).mono ?_;rintro e w1 ⟨rfl,b1⟩;(have HM:Hid (∀W,Below (w1.alloc (.cells #[.int .u64 (x0:Int)] 22)).heap.size (w1.alloc (.cells #[.int .u64 (x0:Int)] 22)) W→(W.cell? ⟨w.heap.size,0,none⟩=some (.int .u64 (x0:Int))∧W.cell? ⟨w.heap.size,1,none⟩=some (.string (S x1))∧W.cell? ⟨w.heap.size,2,none⟩=some (.string (S x2))∧W.cell? ⟨w.heap.size,3,none⟩=some (.string (S x3))∧W.cell? ⟨w.heap.size,4,none⟩=some (.int .i64 x4)∧W.cell? ⟨w.heap.size,5,none⟩=some (.slice sa5 sn5 sc5)∧W.cell? ⟨w.heap.size,6,none⟩=some (.slice sa6 sn6 sc6)∧W.cell? ⟨w.heap.size+1,0,none⟩=some (.func (.func 108) #[] #[])∧W.cell? ⟨w.heap.size+1+1,0,none⟩=some (.func (.func 74) #[] #[])∧W.cell? ⟨w1.heap.size,0,none⟩=some (.int .u64 (x0:Int)))∧Below w.heap.size w W):=putm (HS:=HS.out) b1);obtain ⟨q0,q1,q2,q3,q4,q5,q6,q7,q8⟩:=HS.out w1 b1;(have hz1:w.heap.size+3≤w1.heap.size:=by (have:=b1.size;omega));(have n0:w.heap.size<w1.heap.size:=by omega);(have n1:w.heap.size+1<w1.heap.size:=by omega);(have n2:w.heap.size+1+1<w1.heap.size:=by omega);clear b1 CK i0c i1c i2c i3c i4c i5c i6c i7c i8c)
     | (go_at_call 110;refine (CO _).mono ?_;rintro e w2 ⟨caps,rfl,hsay,b2⟩;obtain ⟨⟨r0,r1,r2,r3,r4,r5,r6,r7,r8,r9⟩,hB2⟩:=HM.out w2 b2;(have CI:=indexMs_any (X:=fun _=>False) (fun y=>y.kk==x0) ((Rr.row Ms.k HR.out).up hB2) hn (enters_of Tryz.func168 (by kernel_rfl) rfl) (fun y hy=>hsay (fun _=>False) (fun _ e=>e.elim) y (o5 y hy) (o6 y hy)));(have B2:Hid (Below w.heap.size w w2):=hB2);(have BM:Hid (Below (w1.alloc (.cells #[.int .u64 (x0:Int)] 22)).heap.size (w1.alloc (.cells #[.int .u64 (x0:Int)] 22)) w2):=b2);rw [e1] at CI;clear hsay b2 CO hB2 q0 q1 q2 q3 q4 q5 q6 q7 q8)
     | (go_at_call 164;refine CI.mono ?_;rintro e w3 ⟨rfl,b3⟩;(have B3:Hid (Below w.heap.size w w3):=bel_of B2.out b3 nlr);obtain ⟨⟨t0,t1,t2,t3,t4,t5,t6,t7,t8,t9⟩,-⟩:=HM.out w3 (bel_of BM.out b3 nlr);obtain ⟨hpt,⟨u0,p0⟩,f0,⟨u1,p1⟩,f1,⟨u2,p2⟩,f2,⟨u3,p3⟩,f3,⟨u4,p4⟩,f4,⟨u5,p5⟩,f5,⟨u6,p6⟩,f6⟩:=HN.out w3 B3.out;(have HPt:Hid _:=hpt);clear hpt HN;simp only [Nat.add_zero] at p0 f0;clear b3 CI r0 r1 r2 r3 r4 r5 r6 r7 r8 r9))
   go_ret
   exact HPt.out
 | none =>
   have e1:fix (fun y=>y.kk==x0) l = -1:=by unfold fix;rw [hF]
   have hne:¬(0:Int)≤-1:=by omega
   have CI2:∀W,Below w.heap.size w W→∀lb mb kb,W.cell? ⟨lb,0,none⟩=some (.func (.func 74) #[] #[])→W.cell? ⟨mb,0,none⟩=some (.int .u64 (x0:Int))→W.cell? ⟨kb,0,none⟩=some (.func (.func 108) #[] #[])→Calls Tryz.prog 164 #[.slice a0 l.length c0,.func (.func 165) #[] #[.pointer (some ⟨lb,0,none⟩),.pointer (some ⟨mb,0,none⟩),.pointer (some ⟨kb,0,none⟩)]] W fun e w'=>e=.returned (.int .i64 (fix (fun y=>ltU x0 y.kk) l))∧Below W.heap.size W w':=fun W hW lb mb kb d1 d2 d3 =>
     indexMs_any (X:=fun _=>False) (fun y=>ltU x0 y.kk) ((Rr.row Ms.k HR.out).up hW) hn (enters_of Tryz.func165 (by kernel_rfl) rfl) (fun y hy W' hW'=>HP1 y (o5 y hy) (o6 y hy) W' lb mb kb (hW'.cell d1 (fun e=>e)) (hW'.cell d2 (fun e=>e)) (hW'.cell d3 (fun e=>e)))
   cases hG:l.findIdx? (fun y=>ltU x0 y.kk) with
   | some i =>
     have e2:fix (fun y=>ltU x0 y.kk) l=(i:Int):=by unfold fix;rw [hG]
     rw [e2] at CI2
     have hi:=(List.findIdx?_eq_some_iff_getElem.1 hG).1
     have HE:Hid (putL Ms.kk ltU l ⟨x0,x1,x2,x3,x4,.slice sa5 sn5 sc5,.slice sa6 sn6 sc6,z0,z1⟩=l.take i++⟨x0,x1,x2,x3,x4,.slice sa5 sn5 sc5,.slice sa6 sn6 sc6,z0,z1⟩::l.drop i):=by show _=_;unfold putL;simp only [Ms.kk] at hF hG ⊢;rw [hF,hG]
     rw [HE.out]
     have HI:Hid (∀W,Below w.heap.size w W→Calls Tryz.prog 166 #[.slice a0 l.length c0,.int .i64 (i:Int),.slice (some ⟨W.heap.size,0,none⟩) 1 1] (W.alloc (.cells #[.int .u64 (x0:Int),.string (S x1),.string (S x2),.string (S x3),.int .i64 x4,.slice sa5 sn5 sc5,.slice sa6 sn6 sc6] 87)) (PtMs B w (.slice a0 l.length c0) (l.take i++⟨x0,x1,x2,x3,x4,.slice sa5 sn5 sc5,.slice sa6 sn6 sc6,z0,z1⟩::l.drop i))):=by
       intro W hW
       have hW':Below w.heap.size w (W.alloc (.cells #[.int .u64 (x0:Int),.string (S x1),.string (S x2),.string (S x3),.int .i64 x4,.slice sa5 sn5 sc5,.slice sa6 sn6 sc6] 87)):=hW.trans ((Below.refl _ W).alloc hW.size _)
       have r1:=(Ch.of_below (X:=fun _=>False) hW').row (row_zero HR.out) (fun _ _ e=>e)
       refine (insert_anyMs (vb:=W.heap.size) (i:=i) r1 (heap_alloc_new W _) rfl rfl rfl rfl rfl rfl rfl (Ms.one o5 o6) (fun e=>by have:=(HR.out.lt _ e).2;have:=hW.size;omega) (by omega) hbig).mono ?_
       rintro e w4 ⟨g,cap,rfl,r4,g4,h4⟩
       have hln:(l.take i++⟨x0,x1,x2,x3,x4,.slice sa5 sn5 sc5,.slice sa6 sn6 sc6,z0,z1⟩::l.drop i).length=l.length+1:=by simp;omega
       have hwh:∀b,(some g:Option Nat)=some b→(Value.slice a0 l.length c0).ownBlock=some b∨w.heap.size≤b:=fun b hb=>by
         cases hb
         rcases h4 with h4 | h4
         · exact .inl h4
         · right;have:=hW'.size;omega
       refine ⟨_,rfl,?_,?_,hwh⟩
       · rw [hln,← fm_ins Ms.k l i ⟨x0,x1,x2,x3,x4,.slice sa5 sn5 sc5,.slice sa6 sn6 sc6,z0,z1⟩]
         refine row_base r4 (fun b hb=>?_)
         rcases hwh b hb with e | e
         · exact (HR.out.lt b e).1
         · omega
       · exact (Ch.of_below hW').trans (Ch.of_grown g4 (fun b hb _=>hb))
     have hi0:(0:Int)≤(i:Int):=by omega
     clear hF hG HP1 HE
     have hzs:(((w.alloc (.cells #[.int .u64 (x0:Int),.string (S x1),.string (S x2),.string (S x3),.int .i64 x4,.slice sa5 sn5 sc5,.slice sa6 sn6 sc6] 87)).alloc (.cells #[(.func (.func 108) #[] #[])] 159)).alloc (.cells #[(.func (.func 74) #[] #[])] 118)).heap.size=w.heap.size+3:=by simp
     go_enter Tryz.func107,Tryz.ntmps107
     go_wp2_with fail
     generalize (((w.alloc (.cells #[.int .u64 (x0:Int),.string (S x1),.string (S x2),.string (S x3),.int .i64 x4,.slice sa5 sn5 sc5,.slice sa6 sn6 sc6] 87)).alloc (.cells #[(.func (.func 108) #[] #[])] 159)).alloc (.cells #[(.func (.func 74) #[] #[])] 118))=Wz at *
     obtain ⟨i0c,i1c,i2c,i3c,i4c,i5c,i6c,i7c,i8c⟩:=HS.out _ brf
     go_wp2_with (first
       | (go_at_call 108;refine (CK _).mono ?_;rintro e w1 ⟨rfl,b1⟩;(have HM:Hid (∀W,Below (w1.alloc (.cells #[.int .u64 (x0:Int)] 22)).heap.size (w1.alloc (.cells #[.int .u64 (x0:Int)] 22)) W→(W.cell? ⟨w.heap.size,0,none⟩=some (.int .u64 (x0:Int))∧W.cell? ⟨w.heap.size,1,none⟩=some (.string (S x1))∧W.cell? ⟨w.heap.size,2,none⟩=some (.string (S x2))∧W.cell? ⟨w.heap.size,3,none⟩=some (.string (S x3))∧W.cell? ⟨w.heap.size,4,none⟩=some (.int .i64 x4)∧W.cell? ⟨w.heap.size,5,none⟩=some (.slice sa5 sn5 sc5)∧W.cell? ⟨w.heap.size,6,none⟩=some (.slice sa6 sn6 sc6)∧W.cell? ⟨w.heap.size+1,0,none⟩=some (.func (.func 108) #[] #[])∧W.cell? ⟨w.heap.size+1+1,0,none⟩=some (.func (.func 74) #[] #[])∧W.cell? ⟨w1.heap.size,0,none⟩=some (.int .u64 (x0:Int)))∧Below w.heap.size w W):=putm (HS:=HS.out) b1);obtain ⟨q0,q1,q2,q3,q4,q5,q6,q7,q8⟩:=HS.out w1 b1;(have hz1:w.heap.size+3≤w1.heap.size:=by (have:=b1.size;omega));(have n0:w.heap.size<w1.heap.size:=by omega);(have n1:w.heap.size+1<w1.heap.size:=by omega);(have n2:w.heap.size+1+1<w1.heap.size:=by omega);clear b1 CK i0c i1c i2c i3c i4c i5c i6c i7c i8c)
       | (go_at_call 110;refine (CO _).mono ?_;rintro e w2 ⟨caps,rfl,hsay,b2⟩;obtain ⟨⟨r0,r1,r2,r3,r4,r5,r6,r7,r8,r9⟩,hB2⟩:=HM.out w2 b2;(have CI:=indexMs_any (X:=fun _=>False) (fun y=>y.kk==x0) ((Rr.row Ms.k HR.out).up hB2) hn (enters_of Tryz.func168 (by kernel_rfl) rfl) (fun y hy=>hsay (fun _=>False) (fun _ e=>e.elim) y (o5 y hy) (o6 y hy)));(have B2:Hid (Below w.heap.size w w2):=hB2);(have BM:Hid (Below (w1.alloc (.cells #[.int .u64 (x0:Int)] 22)).heap.size (w1.alloc (.cells #[.int .u64 (x0:Int)] 22)) w2):=b2);rw [e1] at CI;clear hsay b2 CO hB2 q0 q1 q2 q3 q4 q5 q6 q7 q8)
       | (go_at_call 164;refine CI.mono ?_;rintro e w3 ⟨rfl,b3⟩;(have B3:Hid (Below w.heap.size w w3):=bel_of B2.out b3 nlr);obtain ⟨⟨t0,t1,t2,t3,t4,t5,t6,t7,t8,t9⟩,-⟩:=HM.out w3 (bel_of BM.out b3 nlr);(have CJ:=CI2 w3 B3.out _ _ _ t8 t9 t7);clear CI2;(have BN:Hid (Below (w1.alloc (.cells #[.int .u64 (x0:Int)] 22)).heap.size (w1.alloc (.cells #[.int .u64 (x0:Int)] 22)) w3):=bel_of BM.out b3 nlr);clear b3 CI r0 r1 r2 r3 r4 r5 r6 r7 r8 r9)
       | (go_at_call 164;refine CJ.mono ?_;rintro e w4 ⟨rfl,b4⟩;obtain ⟨⟨v0,v1,v2,v3,v4,v5,v6,v7,v8,v9⟩,-⟩:=HM.out w4 (bel_of BN.out b4 nlr);(have CN:=HI.out w4 (bel_of B3.out b4 nlr));clear b4 CJ HI t0 t1 t2 t3 t4 t5 t6 t7 t8 t9)
       | (go_at_call 166;refine CN.mono ?_;rintro e w5 ⟨v5,rfl,hr5⟩;(have H5:Hid _:=hr5);clear hr5 CN))
     go_ret
     exact ⟨_,rfl,H5.out⟩
   | none =>
     have e2:fix (fun y=>ltU x0 y.kk) l = -1:=by unfold fix;rw [hG]
     rw [e2] at CI2
     have HE:Hid (putL Ms.kk ltU l ⟨x0,x1,x2,x3,x4,.slice sa5 sn5 sc5,.slice sa6 sn6 sc6,z0,z1⟩=l++[⟨x0,x1,x2,x3,x4,.slice sa5 sn5 sc5,.slice sa6 sn6 sc6,z0,z1⟩]):=by show _=_;unfold putL;simp only [Ms.kk] at hF hG ⊢;rw [hF,hG]
     rw [HE.out]
     obtain ⟨i9,hi9,hz0,hz1,hz2⟩:=info_parts infoMs
     have HI:Hid (∀W,Below w.heap.size w W→∃v' w',(Builtin.append_ #[31,31] 31 #[.slice a0 l.length c0,.slice (some ⟨W.heap.size,0,none⟩) 1 1]).run Tryz.prog (W.alloc (.cells #[.int .u64 (x0:Int),.string (S x1),.string (S x2),.string (S x3),.int .i64 x4,.slice sa5 sn5 sc5,.slice sa6 sn6 sc6] 87))=.ok v' w'∧PtMs B w (.slice a0 l.length c0) (l++[⟨x0,x1,x2,x3,x4,.slice sa5 sn5 sc5,.slice sa6 sn6 sc6,z0,z1⟩]) (.returned v') w'):=by
       intro W hW
       have hW':Below w.heap.size w (W.alloc (.cells #[.int .u64 (x0:Int),.string (S x1),.string (S x2),.string (S x3),.int .i64 x4,.slice sa5 sn5 sc5,.slice sa6 sn6 sc6] 87)):=hW.trans ((Below.refl _ W).alloc hW.size _)
       have r1:=(Ch.of_below (X:=fun _=>False) hW').row (row_zero HR.out) (fun _ _ e=>e)
       obtain ⟨gg,cap,w',hrun,r4,g4,h4,-⟩:=run_append_where (P:=Tryz.prog) (W.alloc (.cells #[.int .u64 (x0:Int),.string (S x1),.string (S x2),.string (S x3),.int .i64 x4,.slice sa5 sn5 sc5,.slice sa6 sn6 sc6] 87)) 31 31 87 i9 _ 7 112 Tryz.underlying31 hi9 hz0 hz1 hz2 rfl (by decide) _ _ _ r1 ⟨W.heap.size,0,none⟩ 1 1 [.int .u64 (x0:Int),.string (S x1),.string (S x2),.string (S x3),.int .i64 x4,.slice sa5 sn5 sc5,.slice sa6 sn6 sc6] rfl
         (fun j u hj=>by rw [Addr.add_lit];exact cellsMs (heap_alloc_new W _) j u hj) (by intro u hu;simp at hu;rcases hu with rfl | rfl | rfl | rfl | rfl | rfl | rfl <;> rfl) (by decide) (by unfold maxLen;omega) (fitsMs _ hbig)
       have hwh:∀b,(some gg:Option Nat)=some b→(Value.slice a0 l.length c0).ownBlock=some b∨w.heap.size≤b:=fun b hb=>by
         cases hb
         rcases h4 with h4 | h4
         · exact .inl h4
         · right;have:=hW'.size;omega
       refine ⟨_,_,hrun,_,rfl,?_,(Ch.of_below hW').trans (Ch.of_grown g4 (fun b hb _=>hb)),hwh⟩
       rw [List.length_append,List.flatMap_append]
       refine row_base (by simpa [Ms.c] using r4) (fun b hb=>?_)
       rcases hwh b hb with e | e
       · exact (HR.out.lt b e).1
       · omega
     clear hF hG HP1 HE
     have hzs:(((w.alloc (.cells #[.int .u64 (x0:Int),.string (S x1),.string (S x2),.string (S x3),.int .i64 x4,.slice sa5 sn5 sc5,.slice sa6 sn6 sc6] 87)).alloc (.cells #[(.func (.func 108) #[] #[])] 159)).alloc (.cells #[(.func (.func 74) #[] #[])] 118)).heap.size=w.heap.size+3:=by simp
     go_enter Tryz.func107,Tryz.ntmps107
     go_wp2_with fail
     generalize (((w.alloc (.cells #[.int .u64 (x0:Int),.string (S x1),.string (S x2),.string (S x3),.int .i64 x4,.slice sa5 sn5 sc5,.slice sa6 sn6 sc6] 87)).alloc (.cells #[(.func (.func 108) #[] #[])] 159)).alloc (.cells #[(.func (.func 74) #[] #[])] 118))=Wz at *
     obtain ⟨i0c,i1c,i2c,i3c,i4c,i5c,i6c,i7c,i8c⟩:=HS.out _ brf
     go_wp2_with (first
       | (go_at_call 108;refine (CK _).mono ?_;rintro e w1 ⟨rfl,b1⟩;(have HM:Hid (∀W,Below (w1.alloc (.cells #[.int .u64 (x0:Int)] 22)).heap.size (w1.alloc (.cells #[.int .u64 (x0:Int)] 22)) W→(W.cell? ⟨w.heap.size,0,none⟩=some (.int .u64 (x0:Int))∧W.cell? ⟨w.heap.size,1,none⟩=some (.string (S x1))∧W.cell? ⟨w.heap.size,2,none⟩=some (.string (S x2))∧W.cell? ⟨w.heap.size,3,none⟩=some (.string (S x3))∧W.cell? ⟨w.heap.size,4,none⟩=some (.int .i64 x4)∧W.cell? ⟨w.heap.size,5,none⟩=some (.slice sa5 sn5 sc5)∧W.cell? ⟨w.heap.size,6,none⟩=some (.slice sa6 sn6 sc6)∧W.cell? ⟨w.heap.size+1,0,none⟩=some (.func (.func 108) #[] #[])∧W.cell? ⟨w.heap.size+1+1,0,none⟩=some (.func (.func 74) #[] #[])∧W.cell? ⟨w1.heap.size,0,none⟩=some (.int .u64 (x0:Int)))∧Below w.heap.size w W):=putm (HS:=HS.out) b1);obtain ⟨q0,q1,q2,q3,q4,q5,q6,q7,q8⟩:=HS.out w1 b1;(have hz1:w.heap.size+3≤w1.heap.size:=by (have:=b1.size;omega));(have n0:w.heap.size<w1.heap.size:=by omega);(have n1:w.heap.size+1<w1.heap.size:=by omega);(have n2:w.heap.size+1+1<w1.heap.size:=by omega);clear b1 CK i0c i1c i2c i3c i4c i5c i6c i7c i8c)
       | (go_at_call 110;refine (CO _).mono ?_;rintro e w2 ⟨caps,rfl,hsay,b2⟩;obtain ⟨⟨r0,r1,r2,r3,r4,r5,r6,r7,r8,r9⟩,hB2⟩:=HM.out w2 b2;(have CI:=indexMs_any (X:=fun _=>False) (fun y=>y.kk==x0) ((Rr.row Ms.k HR.out).up hB2) hn (enters_of Tryz.func168 (by kernel_rfl) rfl) (fun y hy=>hsay (fun _=>False) (fun _ e=>e.elim) y (o5 y hy) (o6 y hy)));(have B2:Hid (Below w.heap.size w w2):=hB2);(have BM:Hid (Below (w1.alloc (.cells #[.int .u64 (x0:Int)] 22)).heap.size (w1.alloc (.cells #[.int .u64 (x0:Int)] 22)) w2):=b2);rw [e1] at CI;clear hsay b2 CO hB2 q0 q1 q2 q3 q4 q5 q6 q7 q8)
       | (go_at_call 164;refine CI.mono ?_;rintro e w3 ⟨rfl,b3⟩;(have B3:Hid (Below w.heap.size w w3):=bel_of B2.out b3 nlr);obtain ⟨⟨t0,t1,t2,t3,t4,t5,t6,t7,t8,t9⟩,-⟩:=HM.out w3 (bel_of BM.out b3 nlr);(have CJ:=CI2 w3 B3.out _ _ _ t8 t9 t7);clear CI2;(have BN:Hid (Below (w1.alloc (.cells #[.int .u64 (x0:Int)] 22)).heap.size (w1.alloc (.cells #[.int .u64 (x0:Int)] 22)) w3):=bel_of BM.out b3 nlr);clear b3 CI r0 r1 r2 r3 r4 r5 r6 r7 r8 r9)
       | (go_at_call 164;refine CJ.mono ?_;rintro e w4 ⟨rfl,b4⟩;obtain ⟨⟨v0,v1,v2,v3,v4,v5,v6,v7,v8,v9⟩,-⟩:=HM.out w4 (bel_of BN.out b4 nlr);obtain ⟨v5,w5,hrun,hpt⟩:=HI.out w4 (bel_of B3.out b4 nlr);(have H5:Hid _:=hpt);clear b4 CJ HI hpt t0 t1 t2 t3 t4 t5 t6 t7 t8 t9)
       | (at_builtin;refine Lib.wpList_append_run _ rfl _ _ _ _ rfl _ _ rfl rfl _ _ hrun ?_))
     go_ret
     exact H5.out

structure Bgm (W1 w':World) (xb:Nat) (k:Nat) (a b c:List UInt8) (n:Int) (v:Value) (l:List Vr):Prop where
 lt:W1.heap.size≤xb
 obj:w'.heap[xb]?=some (.cells #[.int .u64 (k:Int),.string (S a),.string (S b),.string (S c),.int .i64 n,v,.slice none 0 0] 87 (0,0))
 row:w'.ownsRow W1.heap.size 64 4 v l.length (l.flatMap Vr.c)
 bel:Below W1.heap.size W1 w'
theorem Bgm.late {W1 u1:World} {k:Nat} {a b c:List UInt8} {n:Int} {v:Value} {l:List Vr} (hb:Below W1.heap.size W1 u1) (hr:u1.ownsRow W1.heap.size 64 4 v l.length (l.flatMap Vr.c)):Bgm W1 (u1.alloc (.cells #[.int .u64 (k:Int),.string (S a),.string (S b),.string (S c),.int .i64 n,v,.slice none 0 0] 87)) u1.heap.size k a b c n v l :=
 ⟨hb.size,heap_alloc_new _ _,hr.alloc _,hb.trans ((Below.refl _ u1).alloc hb.size _)⟩
theorem Bgm.early {W1 u1:World} {k:Nat} {a b c:List UInt8} {n:Int} {v z0 z1 z2 z3 z4 z5 z6:Value} {l:List Vr} (hb:Below (W1.heap.size+1) (W1.alloc (.cells #[z0,z1,z2,z3,z4,z5,z6] 87)) u1) (hr:u1.ownsRow (W1.heap.size+1) 64 4 v l.length (l.flatMap Vr.c)):Bgm W1 (((((((u1.setCell ⟨W1.heap.size,0,none⟩ (.int .u64 (k:Int))).setCell ⟨W1.heap.size,1,none⟩ (.string (S a))).setCell ⟨W1.heap.size,2,none⟩ (.string (S b))).setCell ⟨W1.heap.size,3,none⟩ (.string (S c))).setCell ⟨W1.heap.size,4,none⟩ (.int .i64 n)).setCell ⟨W1.heap.size,5,none⟩ (v)).setCell ⟨W1.heap.size,6,none⟩ (.slice none 0 0)) W1.heap.size k a b c n v l:=by
 have h0:u1.heap[W1.heap.size]?=some (.cells #[z0,z1,z2,z3,z4,z5,z6] 87 (0,0)):=(hb.block _ (by omega)).trans (heap_alloc_new _ _)
 obtain ⟨cur,h1,-,h3⟩:=setCells_same W1.heap.size 87 [.int .u64 (k:Int),.string (S a),.string (S b),.string (S c),.int .i64 n,v,.slice none 0 0] 0 u1 _ h0 (by simp)
 have e:cur=#[.int .u64 (k:Int),.string (S a),.string (S b),.string (S c),.int .i64 n,v,.slice none 0 0]:=Array.toList_inj.1 (by rw [h3];simp)
 rw [e] at h1
 have hc:Ch (fun g=>g=W1.heap.size) u1 (((((((u1.setCell ⟨W1.heap.size,0,none⟩ (.int .u64 (k:Int))).setCell ⟨W1.heap.size,1,none⟩ (.string (S a))).setCell ⟨W1.heap.size,2,none⟩ (.string (S b))).setCell ⟨W1.heap.size,3,none⟩ (.string (S c))).setCell ⟨W1.heap.size,4,none⟩ (.int .i64 n)).setCell ⟨W1.heap.size,5,none⟩ (v)).setCell ⟨W1.heap.size,6,none⟩ (.slice none 0 0)):=((((((((Ch.refl (fun g=>g=W1.heap.size) u1).setCell ⟨W1.heap.size,0,none⟩ (.int .u64 (k:Int)) (fun _=>rfl)).setCell ⟨W1.heap.size,1,none⟩ (.string (S a)) (fun _=>rfl)).setCell ⟨W1.heap.size,2,none⟩ (.string (S b)) (fun _=>rfl)).setCell ⟨W1.heap.size,3,none⟩ (.string (S c)) (fun _=>rfl)).setCell ⟨W1.heap.size,4,none⟩ (.int .i64 n) (fun _=>rfl)).setCell ⟨W1.heap.size,5,none⟩ (v) (fun _=>rfl)).setCell ⟨W1.heap.size,6,none⟩ (.slice none 0 0) (fun _=>rfl))
 have hr2:=hc.row hr (fun g hg e=>by have:=(hr.lt g hg).1;omega)
 have hbs:=hb.size
 rw [World.size_alloc] at hbs
 refine ⟨nlr,h1,?_,?_⟩
 · refine ⟨hr2.1,hr2.2.imp id ?_⟩
   rintro ⟨g,cap,cur,e,hg,rest⟩
   exact ⟨g,cap,cur,e,by omega,rest⟩
 · have b0:Below W1.heap.size W1 u1:=((Below.refl _ W1).alloc nlr _).trans (hb.mono (by omega))
   exact b0.trans (hc.below (by omega) (fun g hg e=>by omega))

theorem Sx.putMs {B : Nat} {w w1 w2 : World} {sb : Nat} {s : St} {x : Ms} {v : Value} (h : Sx B w sb s) (hb : Below w.heap.size w w1) (hB : B ≤ w.heap.size) (hx : (Ms.r x).ok w.heap.size w1) (hi : (Ms.q x).ok w1.heap.size w1) (hp : w2.ownsRow B 87 7 v (putL Ms.kk ltU s.msgs x).length ((putL Ms.kk ltU s.msgs x).flatMap Ms.c)) (hc : Ch (fun g => s.vMs.ownBlock = some g) w1 w2) (hn : ∀ g, v.ownBlock = some g → s.vMs.ownBlock = some g ∨ w1.heap.size ≤ g) :
   (∀mn:Nat,Sx B ((w2.setCell ⟨sb,11,none⟩ v).setCell ⟨sb,2,none⟩ (.int .u64 (mn:Int))) sb { s with vMs:=v,msgs:=putL Ms.kk ltU s.msgs x,made:=mn })∧(∀(j:Nat) (u:Value),s.c[j]?=some u→w2.cell? ⟨sb,j,none⟩=some u)∧(∀j:Nat,w2.frozen? ⟨sb,j,none⟩=false):=by
 have h0:=Own.add (r:=Ms.r x) h hb hx hB
 have h1:=Own.add (r:=Ms.q x) h0 (Below.refl _ w1) hi (Nat.le_trans hB hb.size)
 have h2:=h1.perm (M:=Ms.rw s.vMs s.msgs::(Ms.r x::Ms.q x::bx sb s.c::(De.rw s.vDe s.procs::In.rw s.vIn s.insts::Tk.rw s.vTk s.tokens::Jb.rw s.vJb s.jobs::Tm.rw s.vTm s.timers::Sb.rw s.vSb s.subs::Kp.rw s.vKp s.kept::Ls.rw s.vLs s.listed::s.inner))) (perm_ac fun z=>by
   simp only [St.rows,St.main,List.count_append,List.count_cons,List.count_nil,Nat.zero_add]
   ac_rfl)
 have h3:=h2.turn (r':=Ms.rw v (putL Ms.kk ltU s.msgs x)) hc hp hn
 have h4:=h3.of_count (M:=bx sb s.c::(De.rw s.vDe s.procs::In.rw s.vIn s.insts::Tk.rw s.vTk s.tokens::Jb.rw s.vJb s.jobs::Tm.rw s.vTm s.timers::Sb.rw s.vSb s.subs::Kp.rw s.vKp s.kept::Ls.rw s.vLs s.listed::Ms.rw v (putL Ms.kk ltU s.msgs x)::(s.insts.map In.r++(s.listed.map Ls.r++((putL Ms.kk ltU s.msgs x).map Ms.r++(putL Ms.kk ltU s.msgs x).map Ms.q))))) (fun z=>by
   have h7:=putL_count Ms.kk ltU s.msgs x Ms.r z
   have h8:=putL_count Ms.kk ltU s.msgs x Ms.q z
   simp only [St.inner,List.count_append,List.count_cons] at h7 h8 ⊢
   omega)
 exact ⟨fun mn=>bx.put (bx.put h4 11 v) 2 (.int .u64 (mn:Int)),fun j u hj=>bx.cell h4 (List.mem_cons_self ..) hj,fun j=>bx.fro h4 (List.mem_cons_self ..) j⟩
def ePublished (s:St) (r:Rc):St:={ s with msgs:=putL Ms.kk ltU s.msgs ⟨r.k1,r.a,r.b,r.c,r.n,.slice none 0 0,.slice none 0 0,r.v,[]⟩,made:=up1 s.made }

theorem published_any {B : Nat} {w : World} {sb : Nat} {s : St} {r : Rc} (h : Sx B w sb s) (hB : B ≤ w.heap.size) (hz : (s.msgs.length + 1) * 112 ≤ 211106232528000) (hr : Rr 4 Vr.c w r.vv r.v) (hv : r.v.length * 48 ≤ 211106232528000) :
   Calls Tryz.prog 57 #[.pointer (some ⟨sb,0,none⟩),.agg r.cs.toArray] w fun e w'=>e=.returned (.tuple #[])∧Eff B w sb (ePublished s.e r) w':=by
 obtain ⟨ra,rp,hra,-⟩:=id hr
 obtain ⟨r0,r1,r2,r3,r4,r5,r6,r7,r8,r9,r10,r11,rvv,rv⟩:=r
 simp only at hra hv hr
 subst hra
 have hsv:=Own.sv (h.sub (List.sublist_cons_self _ _))
 have hsl:∀y∈s.msgs,y.vv.oneCell'=true:=fun y hy=>(hsv.iMs y hy).oneCell
 have hsl2:∀y∈s.msgs,y.iv.oneCell'=true:=fun y hy=>(hsv.qMs y hy).oneCell
 simp only [Rc.cs]
 generalize hrn:rv.length=rn at *
 have hb0:Below w.heap.size w (w.alloc (.cells #[.int .i64 r0,.int .i64 r1,.int .u64 (r2:Int),.int .i64 r3,.int .u64 (r4:Int),.int .u64 (r5:Int),.int .u64 (r6:Int),.int .i64 r7,.int .i64 r8,.string (S r9),.string (S r10),.string (S r11),.slice ra rn rp] 39)):=(Below.refl _ w).alloc nlr _
 have HS:Hid (∀W,Below (w.alloc (.cells #[.int .i64 r0,.int .i64 r1,.int .u64 (r2:Int),.int .i64 r3,.int .u64 (r4:Int),.int .u64 (r5:Int),.int .u64 (r6:Int),.int .i64 r7,.int .i64 r8,.string (S r9),.string (S r10),.string (S r11),.slice ra rn rp] 39)).heap.size (w.alloc (.cells #[.int .i64 r0,.int .i64 r1,.int .u64 (r2:Int),.int .i64 r3,.int .u64 (r4:Int),.int .u64 (r5:Int),.int .u64 (r6:Int),.int .i64 r7,.int .i64 r8,.string (S r9),.string (S r10),.string (S r11),.slice ra rn rp] 39)) W→W.cell? ⟨w.heap.size,4,none⟩=some (.int .u64 (r4:Int))∧W.cell? ⟨w.heap.size,9,none⟩=some (.string (S r9))∧W.cell? ⟨w.heap.size,10,none⟩=some (.string (S r10))∧W.cell? ⟨w.heap.size,11,none⟩=some (.string (S r11))∧W.cell? ⟨w.heap.size,7,none⟩=some (.int .i64 r7)∧W.cell? ⟨w.heap.size,12,none⟩=some (.slice ra rn rp)):=by
   intro W hW
   have hsz:w.heap.size<(w.alloc (.cells #[.int .i64 r0,.int .i64 r1,.int .u64 (r2:Int),.int .i64 r3,.int .u64 (r4:Int),.int .u64 (r5:Int),.int .u64 (r6:Int),.int .i64 r7,.int .i64 r8,.string (S r9),.string (S r10),.string (S r11),.slice ra rn rp] 39)).heap.size:=by simp
   exact ⟨(hW.cell (p:=⟨w.heap.size,4,none⟩) hsz).trans (World.cell?_alloc_new _ _ _ _),(hW.cell (p:=⟨w.heap.size,9,none⟩) hsz).trans (World.cell?_alloc_new _ _ _ _),(hW.cell (p:=⟨w.heap.size,10,none⟩) hsz).trans (World.cell?_alloc_new _ _ _ _),(hW.cell (p:=⟨w.heap.size,11,none⟩) hsz).trans (World.cell?_alloc_new _ _ _ _),(hW.cell (p:=⟨w.heap.size,7,none⟩) hsz).trans (World.cell?_alloc_new _ _ _ _),(hW.cell (p:=⟨w.heap.size,12,none⟩) hsz).trans (World.cell?_alloc_new _ _ _ _)⟩
 have CF:Hid (∀W,Below w.heap.size w W→Calls Tryz.prog 14 #[.slice ra rn rp] W fun e w'=>∃v',e=.returned v'∧w'.ownsRow W.heap.size 64 4 v' rv.length (rv.flatMap Vr.c)∧Below W.heap.size W w'):=fun W hW=>freshVr_any (hr.up hW) (by rw [hrn];exact hv)
 have HH:Hid (Sx B w sb s):=h
 have B1:Hid (Below w.heap.size w (w.alloc (.cells #[.int .i64 r0,.int .i64 r1,.int .u64 (r2:Int),.int .i64 r3,.int .u64 (r4:Int),.int .u64 (r5:Int),.int .u64 (r6:Int),.int .i64 r7,.int .i64 r8,.string (S r9),.string (S r10),.string (S r11),.slice ra rn rp] 39))):=hb0
 clear hb0 h hr hsv
 go_enter Tryz.func57,Tryz.ntmps57
 go_wp2
 generalize (w.alloc (.cells #[.int .i64 r0,.int .i64 r1,.int .u64 (r2:Int),.int .i64 r3,.int .u64 (r4:Int),.int .u64 (r5:Int),.int .u64 (r6:Int),.int .i64 r7,.int .i64 r8,.string (S r9),.string (S r10),.string (S r11),.slice ra rn rp] 39))=W1 at *
 obtain ⟨d4,d9,d10,d11,d7,d12⟩:=HS.out _ brf
 refine Code.wp_mono (Q:=Exit.then (fun a' w'=>∃a1 p1 xb,a'={ tmps:=#[.pointer (some ⟨sb,0,none⟩),.agg #[.int .i64 r0,.int .i64 r1,.int .u64 (r2:Int),.int .i64 r3,.int .u64 (r4:Int),.int .u64 (r5:Int),.int .u64 (r6:Int),.int .i64 r7,.int .i64 r8,.string (S r9),.string (S r10),.string (S r11),.slice ra rn rp],undef,.pointer (some ⟨w.heap.size,0,none⟩),.pointer (some ⟨xb,0,none⟩),.pointer (some ⟨w.heap.size,4,none⟩),.int .u64 (r4:Int),.pointer (some ⟨w.heap.size,9,none⟩),.string (S r9),.pointer (some ⟨w.heap.size,10,none⟩),.string (S r10),.pointer (some ⟨w.heap.size,11,none⟩),.string (S r11),.pointer (some ⟨w.heap.size,7,none⟩),.int .i64 r7,.pointer (some ⟨w.heap.size,12,none⟩),.slice ra rn rp,.slice a1 rn p1,.agg #[.int .u64 (r4:Int),.string (S r9),.string (S r10),.string (S r11),.int .i64 r7,.slice a1 rn p1,.slice none 0 0],undef,undef,undef,undef,undef,undef,undef,undef,undef,undef,undef,undef,undef,undef,undef,undef],defers:=[] }∧Bgm W1 w' xb r4 r9 r10 r11 r7 (.slice a1 rn p1) rv) (fun _ _ _=>False)) ?post ?reg
 case reg =>
   refine wp_region_held_drew (S:=fun W=>W.cell? ⟨w.heap.size,4,none⟩=some (.int .u64 (r4:Int))∧W.cell? ⟨w.heap.size,9,none⟩=some (.string (S r9))∧W.cell? ⟨w.heap.size,10,none⟩=some (.string (S r10))∧W.cell? ⟨w.heap.size,11,none⟩=some (.string (S r11))∧W.cell? ⟨w.heap.size,7,none⟩=some (.int .i64 r7)∧W.cell? ⟨w.heap.size,12,none⟩=some (.slice ra rn rp)) (by kernel_rfl) (by first | go_keep | exact HS.out _ brf | exact HS.out _ brf.drew | exact HS.out _ hX | exact HS.out _ hX.drew | exact HS.out _ (hX.alloc hX.size _) | exact HS.out _ (brf.alloc nlr _) | exact HS.out _ ((brf.alloc nlr _).drew) | exact HS.out _ HBG.out.bel) (fun hHeld=>?_)
   refine wpAnyH_take (i:=0) (v:=?_) rfl (by kernel_rfl) (by kernel_rfl) (by kernel_rfl) (fun _ _ _ h=>h) (Or.inl ⟨by rfl,?_⟩) (by assumption) ?_
   rotate_left 1
   · intro w hSw;(try dsimp only at hSw);go_simp;try with_reducible rfl
   refine wpAnyH_take (i:=1) (v:=?_) rfl (by kernel_rfl) (by kernel_rfl) (by kernel_rfl) (fun _ _ _ h=>h) (Or.inl ⟨by rfl,?_⟩) (by assumption) ?_
   rotate_left 1
   · intro w hSw;(try dsimp only at hSw);go_simp;try with_reducible rfl
   change wpAnyH _ _ _ _ _ _ _ { tmps:=#[.pointer (some ⟨sb,0,none⟩),.agg #[.int .i64 r0,.int .i64 r1,.int .u64 (r2:Int),.int .i64 r3,.int .u64 (r4:Int),.int .u64 (r5:Int),.int .u64 (r6:Int),.int .i64 r7,.int .i64 r8,.string (S r9),.string (S r10),.string (S r11),.slice ra rn rp],undef,.pointer (some ⟨w.heap.size,0,none⟩),undef,.pointer (some ⟨w.heap.size,4,none⟩),.int .u64 (r4:Int),undef,undef,undef,undef,undef,undef,undef,undef,undef,undef,undef,undef,undef,undef,undef,undef,undef,undef,undef,undef,undef,undef,undef,undef,undef,undef,undef,undef],defers:=[] } _
   refine wpAnyH_take (i:=2) (v:=?_) rfl (by kernel_rfl) (by kernel_rfl) (by kernel_rfl) (fun _ _ _ h=>h) (Or.inl ⟨by rfl,?_⟩) (by assumption) ?_
   rotate_left 1
   · intro w hSw;(try dsimp only at hSw);go_simp;try with_reducible rfl
   refine wpAnyH_take (i:=3) (v:=?_) rfl (by kernel_rfl) (by kernel_rfl) (by kernel_rfl) (fun _ _ _ h=>h) (Or.inl ⟨by rfl,?_⟩) (by assumption) ?_
   rotate_left 1
   · intro w hSw;(try dsimp only at hSw);go_simp;try with_reducible rfl
   change wpAnyH _ _ _ _ _ _ _ { tmps:=#[.pointer (some ⟨sb,0,none⟩),.agg #[.int .i64 r0,.int .i64 r1,.int .u64 (r2:Int),.int .i64 r3,.int .u64 (r4:Int),.int .u64 (r5:Int),.int .u64 (r6:Int),.int .i64 r7,.int .i64 r8,.string (S r9),.string (S r10),.string (S r11),.slice ra rn rp],undef,.pointer (some ⟨w.heap.size,0,none⟩),undef,.pointer (some ⟨w.heap.size,4,none⟩),.int .u64 (r4:Int),.pointer (some ⟨w.heap.size,9,none⟩),.string (S r9),undef,undef,undef,undef,undef,undef,undef,undef,undef,undef,undef,undef,undef,undef,undef,undef,undef,undef,undef,undef,undef,undef,undef,undef,undef,undef],defers:=[] } _
   refine wpAnyH_take (i:=4) (v:=?_) rfl (by kernel_rfl) (by kernel_rfl) (by kernel_rfl) (fun _ _ _ h=>h) (Or.inl ⟨by rfl,?_⟩) (by assumption) ?_
   rotate_left 1
   · intro w hSw;(try dsimp only at hSw);go_simp;try with_reducible rfl
   refine wpAnyH_take (i:=5) (v:=?_) rfl (by kernel_rfl) (by kernel_rfl) (by kernel_rfl) (fun _ _ _ h=>h) (Or.inl ⟨by rfl,?_⟩) (by assumption) ?_
   rotate_left 1
   · intro w hSw;(try dsimp only at hSw);go_simp;try with_reducible rfl
   change wpAnyH _ _ _ _ _ _ _ { tmps:=#[.pointer (some ⟨sb,0,none⟩),.agg #[.int .i64 r0,.int .i64 r1,.int .u64 (r2:Int),.int .i64 r3,.int .u64 (r4:Int),.int .u64 (r5:Int),.int .u64 (r6:Int),.int .i64 r7,.int .i64 r8,.string (S r9),.string (S r10),.string (S r11),.slice ra rn rp],undef,.pointer (some ⟨w.heap.size,0,none⟩),undef,.pointer (some ⟨w.heap.size,4,none⟩),.int .u64 (r4:Int),.pointer (some ⟨w.heap.size,9,none⟩),.string (S r9),.pointer (some ⟨w.heap.size,10,none⟩),.string (S r10),undef,undef,undef,undef,undef,undef,undef,undef,undef,undef,undef,undef,undef,undef,undef,undef,undef,undef,undef,undef,undef,undef,undef,undef],defers:=[] } _
   refine wpAnyH_take (i:=6) (v:=?_) rfl (by kernel_rfl) (by kernel_rfl) (by kernel_rfl) (fun _ _ _ h=>h) (Or.inl ⟨by rfl,?_⟩) (by assumption) ?_
   rotate_left 1
   · intro w hSw;(try dsimp only at hSw);go_simp;try with_reducible rfl
   refine wpAnyH_take (i:=7) (v:=?_) rfl (by kernel_rfl) (by kernel_rfl) (by kernel_rfl) (fun _ _ _ h=>h) (Or.inl ⟨by rfl,?_⟩) (by assumption) ?_
   rotate_left 1
   · intro w hSw;(try dsimp only at hSw);go_simp;try with_reducible rfl
   change wpAnyH _ _ _ _ _ _ _ { tmps:=#[.pointer (some ⟨sb,0,none⟩),.agg #[.int .i64 r0,.int .i64 r1,.int .u64 (r2:Int),.int .i64 r3,.int .u64 (r4:Int),.int .u64 (r5:Int),.int .u64 (r6:Int),.int .i64 r7,.int .i64 r8,.string (S r9),.string (S r10),.string (S r11),.slice ra rn rp],undef,.pointer (some ⟨w.heap.size,0,none⟩),undef,.pointer (some ⟨w.heap.size,4,none⟩),.int .u64 (r4:Int),.pointer (some ⟨w.heap.size,9,none⟩),.string (S r9),.pointer (some ⟨w.heap.size,10,none⟩),.string (S r10),.pointer (some ⟨w.heap.size,11,none⟩),.string (S r11),undef,undef,undef,undef,undef,undef,undef,undef,undef,undef,undef,undef,undef,undef,undef,undef,undef,undef,undef,undef,undef,undef],defers:=[] } _
   refine wpAnyH_take (i:=8) (v:=?_) rfl (by kernel_rfl) (by kernel_rfl) (by kernel_rfl) (fun _ _ _ h=>h) (Or.inl ⟨by rfl,?_⟩) (by assumption) ?_
   rotate_left 1
   · intro w hSw;(try dsimp only at hSw);go_simp;try with_reducible rfl
   refine wpAnyH_take (i:=9) (v:=?_) rfl (by kernel_rfl) (by kernel_rfl) (by kernel_rfl) (fun _ _ _ h=>h) (Or.inl ⟨by rfl,?_⟩) (by assumption) ?_
   rotate_left 1
   · intro w hSw;(try dsimp only at hSw);go_simp;try with_reducible rfl
   change wpAnyH _ _ _ _ _ _ _ { tmps:=#[.pointer (some ⟨sb,0,none⟩),.agg #[.int .i64 r0,.int .i64 r1,.int .u64 (r2:Int),.int .i64 r3,.int .u64 (r4:Int),.int .u64 (r5:Int),.int .u64 (r6:Int),.int .i64 r7,.int .i64 r8,.string (S r9),.string (S r10),.string (S r11),.slice ra rn rp],undef,.pointer (some ⟨w.heap.size,0,none⟩),undef,.pointer (some ⟨w.heap.size,4,none⟩),.int .u64 (r4:Int),.pointer (some ⟨w.heap.size,9,none⟩),.string (S r9),.pointer (some ⟨w.heap.size,10,none⟩),.string (S r10),.pointer (some ⟨w.heap.size,11,none⟩),.string (S r11),.pointer (some ⟨w.heap.size,7,none⟩),.int .i64 r7,undef,undef,undef,undef,undef,undef,undef,undef,undef,undef,undef,undef,undef,undef,undef,undef,undef,undef,undef,undef],defers:=[] } _
   refine wpAnyH_take (i:=10) (v:=?_) rfl (by kernel_rfl) (by kernel_rfl) (by kernel_rfl) (fun _ _ _ h=>h) (Or.inl ⟨by rfl,?_⟩) (by assumption) ?_
   rotate_left 1
   · intro w hSw;(try dsimp only at hSw);go_simp;try with_reducible rfl
   refine wpAnyH_take (i:=11) (v:=?_) rfl (by kernel_rfl) (by kernel_rfl) (by kernel_rfl) (fun _ _ _ h=>h) (Or.inl ⟨by rfl,?_⟩) (by assumption) ?_
   rotate_left 1
   · intro w hSw;(try dsimp only at hSw);go_simp;try with_reducible rfl
   change wpAnyH _ _ _ _ _ _ _ { tmps:=#[.pointer (some ⟨sb,0,none⟩),.agg #[.int .i64 r0,.int .i64 r1,.int .u64 (r2:Int),.int .i64 r3,.int .u64 (r4:Int),.int .u64 (r5:Int),.int .u64 (r6:Int),.int .i64 r7,.int .i64 r8,.string (S r9),.string (S r10),.string (S r11),.slice ra rn rp],undef,.pointer (some ⟨w.heap.size,0,none⟩),undef,.pointer (some ⟨w.heap.size,4,none⟩),.int .u64 (r4:Int),.pointer (some ⟨w.heap.size,9,none⟩),.string (S r9),.pointer (some ⟨w.heap.size,10,none⟩),.string (S r10),.pointer (some ⟨w.heap.size,11,none⟩),.string (S r11),.pointer (some ⟨w.heap.size,7,none⟩),.int .i64 r7,.pointer (some ⟨w.heap.size,12,none⟩),.slice ra rn rp,undef,undef,undef,undef,undef,undef,undef,undef,undef,undef,undef,undef,undef,undef,undef,undef,undef,undef],defers:=[] } _
   refine wpAnyH_ready (rs:=[12,14]) (by kernel_rfl) (by simp) ?_
   refine AllReadyH.cons rfl (fun K hK=>?_) ?_
   · go_simp
     (go_at_call 14;refine (CF.out _ B1.out.drew).mono ?_;rintro e u1 ⟨v1,rfl,q1,hX0⟩;obtain ⟨a1,p1,hs1,-⟩:=row_slice q1;rw [hrn] at hs1;subst hs1;(have hX:Below W1.heap.size W1 u1:=(Below.refl _ W1).drew.trans (hX0.mono nlr));(have HBG:Hid _:=Bgm.late (k:=r4) (a:=r9) (b:=r10) (c:=r11) (n:=r7) hX q1))
     go_wp2_with fail
     refine hK.out _ _ (by first | go_keep | exact HS.out _ brf | exact HS.out _ brf.drew | exact HS.out _ hX | exact HS.out _ hX.drew | exact HS.out _ (hX.alloc hX.size _) | exact HS.out _ (brf.alloc nlr _) | exact HS.out _ ((brf.alloc nlr _).drew) | exact HS.out _ HBG.out.bel) (fun hHeld=>?_)
     clear hK K
     change wpAnyH _ _ _ _ _ _ _ { tmps:=#[.pointer (some ⟨sb,0,none⟩),.agg #[.int .i64 r0,.int .i64 r1,.int .u64 (r2:Int),.int .i64 r3,.int .u64 (r4:Int),.int .u64 (r5:Int),.int .u64 (r6:Int),.int .i64 r7,.int .i64 r8,.string (S r9),.string (S r10),.string (S r11),.slice ra rn rp],undef,.pointer (some ⟨w.heap.size,0,none⟩),undef,.pointer (some ⟨w.heap.size,4,none⟩),.int .u64 (r4:Int),.pointer (some ⟨w.heap.size,9,none⟩),.string (S r9),.pointer (some ⟨w.heap.size,10,none⟩),.string (S r10),.pointer (some ⟨w.heap.size,11,none⟩),.string (S r11),.pointer (some ⟨w.heap.size,7,none⟩),.int .i64 r7,.pointer (some ⟨w.heap.size,12,none⟩),.slice ra rn rp,.slice a1 rn p1,undef,undef,undef,undef,undef,undef,undef,undef,undef,undef,undef,undef,undef,undef,undef,undef,undef],defers:=[] } _
     refine wpAnyH_take (i:=13) (v:=?_) rfl (by kernel_rfl) (by kernel_rfl) (by kernel_rfl) (fun _ _ _ h=>h) (Or.inl ⟨by rfl,?_⟩) (by assumption) ?_
     rotate_left 1
     · intro w hSw;(try dsimp only at hSw);go_simp;try with_reducible rfl
     change wpAnyH _ _ _ _ _ _ _ { tmps:=#[.pointer (some ⟨sb,0,none⟩),.agg #[.int .i64 r0,.int .i64 r1,.int .u64 (r2:Int),.int .i64 r3,.int .u64 (r4:Int),.int .u64 (r5:Int),.int .u64 (r6:Int),.int .i64 r7,.int .i64 r8,.string (S r9),.string (S r10),.string (S r11),.slice ra rn rp],undef,.pointer (some ⟨w.heap.size,0,none⟩),undef,.pointer (some ⟨w.heap.size,4,none⟩),.int .u64 (r4:Int),.pointer (some ⟨w.heap.size,9,none⟩),.string (S r9),.pointer (some ⟨w.heap.size,10,none⟩),.string (S r10),.pointer (some ⟨w.heap.size,11,none⟩),.string (S r11),.pointer (some ⟨w.heap.size,7,none⟩),.int .i64 r7,.pointer (some ⟨w.heap.size,12,none⟩),.slice ra rn rp,.slice a1 rn p1,.agg #[.int .u64 (r4:Int),.string (S r9),.string (S r10),.string (S r11),.int .i64 r7,.slice a1 rn p1,.slice none 0 0],undef,undef,undef,undef,undef,undef,undef,undef,undef,undef,undef,undef,undef,undef,undef,undef],defers:=[] } _
     refine wpAnyH_ready (rs:=[14]) (by kernel_rfl) (by simp) ?_
     refine AllReadyH.cons rfl (fun K hK=>?_) AllReadyH.nil
     · go_simp
       refine hK.out _ _ (by first | go_keep | exact HS.out _ brf | exact HS.out _ brf.drew | exact HS.out _ hX | exact HS.out _ hX.drew | exact HS.out _ (hX.alloc hX.size _) | exact HS.out _ (brf.alloc nlr _) | exact HS.out _ ((brf.alloc nlr _).drew) | exact HS.out _ HBG.out.bel) (fun hHeld=>?_)
       clear hK K
       change wpAnyH _ _ _ _ _ _ _ { tmps:=#[.pointer (some ⟨sb,0,none⟩),.agg #[.int .i64 r0,.int .i64 r1,.int .u64 (r2:Int),.int .i64 r3,.int .u64 (r4:Int),.int .u64 (r5:Int),.int .u64 (r6:Int),.int .i64 r7,.int .i64 r8,.string (S r9),.string (S r10),.string (S r11),.slice ra rn rp],undef,.pointer (some ⟨w.heap.size,0,none⟩),.pointer (some ⟨u1.heap.size,0,none⟩),.pointer (some ⟨w.heap.size,4,none⟩),.int .u64 (r4:Int),.pointer (some ⟨w.heap.size,9,none⟩),.string (S r9),.pointer (some ⟨w.heap.size,10,none⟩),.string (S r10),.pointer (some ⟨w.heap.size,11,none⟩),.string (S r11),.pointer (some ⟨w.heap.size,7,none⟩),.int .i64 r7,.pointer (some ⟨w.heap.size,12,none⟩),.slice ra rn rp,.slice a1 rn p1,.agg #[.int .u64 (r4:Int),.string (S r9),.string (S r10),.string (S r11),.int .i64 r7,.slice a1 rn p1,.slice none 0 0],undef,undef,undef,undef,undef,undef,undef,undef,undef,undef,undef,undef,undef,undef,undef,undef],defers:=[] } _
       refine wpAnyH_ready (rs:=[15]) (by kernel_rfl) (by simp) ?_
       refine AllReadyH.cons rfl (fun K hK=>?_) AllReadyH.nil
       · go_simp
         refine hK.out _ _ (by first | go_keep | exact HS.out _ brf | exact HS.out _ brf.drew | exact HS.out _ hX | exact HS.out _ hX.drew | exact HS.out _ (hX.alloc hX.size _) | exact HS.out _ (brf.alloc nlr _) | exact HS.out _ ((brf.alloc nlr _).drew) | exact HS.out _ HBG.out.bel) (fun hHeld=>?_)
         clear hK K
         change wpAnyH _ _ _ _ _ _ _ { tmps:=#[.pointer (some ⟨sb,0,none⟩),.agg #[.int .i64 r0,.int .i64 r1,.int .u64 (r2:Int),.int .i64 r3,.int .u64 (r4:Int),.int .u64 (r5:Int),.int .u64 (r6:Int),.int .i64 r7,.int .i64 r8,.string (S r9),.string (S r10),.string (S r11),.slice ra rn rp],undef,.pointer (some ⟨w.heap.size,0,none⟩),.pointer (some ⟨u1.heap.size,0,none⟩),.pointer (some ⟨w.heap.size,4,none⟩),.int .u64 (r4:Int),.pointer (some ⟨w.heap.size,9,none⟩),.string (S r9),.pointer (some ⟨w.heap.size,10,none⟩),.string (S r10),.pointer (some ⟨w.heap.size,11,none⟩),.string (S r11),.pointer (some ⟨w.heap.size,7,none⟩),.int .i64 r7,.pointer (some ⟨w.heap.size,12,none⟩),.slice ra rn rp,.slice a1 rn p1,.agg #[.int .u64 (r4:Int),.string (S r9),.string (S r10),.string (S r11),.int .i64 r7,.slice a1 rn p1,.slice none 0 0],undef,undef,undef,undef,undef,undef,undef,undef,undef,undef,undef,undef,undef,undef,undef,undef],defers:=[] } _
         refine wpAnyH_done (by kernel_rfl) ?_ _
         exact ⟨a1,p1,_,rfl,HBG.out⟩
   refine AllReadyH.cons rfl (fun K hK=>?_) AllReadyH.nil
   · go_simp
     refine hK.out _ _ (by first | go_keep | exact HS.out _ brf | exact HS.out _ brf.drew | exact HS.out _ hX | exact HS.out _ hX.drew | exact HS.out _ (hX.alloc hX.size _) | exact HS.out _ (brf.alloc nlr _) | exact HS.out _ ((brf.alloc nlr _).drew) | exact HS.out _ HBG.out.bel) (fun hHeld=>?_)
     clear hK K
     change wpAnyH _ _ _ _ _ _ _ { tmps:=#[.pointer (some ⟨sb,0,none⟩),.agg #[.int .i64 r0,.int .i64 r1,.int .u64 (r2:Int),.int .i64 r3,.int .u64 (r4:Int),.int .u64 (r5:Int),.int .u64 (r6:Int),.int .i64 r7,.int .i64 r8,.string (S r9),.string (S r10),.string (S r11),.slice ra rn rp],undef,.pointer (some ⟨w.heap.size,0,none⟩),.pointer (some ⟨W1.heap.size,0,none⟩),.pointer (some ⟨w.heap.size,4,none⟩),.int .u64 (r4:Int),.pointer (some ⟨w.heap.size,9,none⟩),.string (S r9),.pointer (some ⟨w.heap.size,10,none⟩),.string (S r10),.pointer (some ⟨w.heap.size,11,none⟩),.string (S r11),.pointer (some ⟨w.heap.size,7,none⟩),.int .i64 r7,.pointer (some ⟨w.heap.size,12,none⟩),.slice ra rn rp,undef,undef,undef,undef,undef,undef,undef,undef,undef,undef,undef,undef,undef,undef,undef,undef,undef,undef],defers:=[] } _
     refine wpAnyH_ready (rs:=[12]) (by kernel_rfl) (by simp) ?_
     refine AllReadyH.cons rfl (fun K hK=>?_) AllReadyH.nil
     · go_simp
       (go_at_call 14;refine (CF.out _ (B1.out.trans ((Below.refl _ W1).alloc B1.out.size _)).drew).mono ?_;rintro e u1 ⟨v1,rfl,q1,hX0⟩;obtain ⟨a1,p1,hs1,-⟩:=row_slice q1;rw [hrn] at hs1;subst hs1;(have hs0:(W1.alloc (.cells #[.int .u64 0,.string ⟨#[]⟩,.string ⟨#[]⟩,.string ⟨#[]⟩,.int .i64 0,.slice none 0 0,.slice none 0 0] 87)).drew.heap.size=W1.heap.size+1:=by (show (W1.alloc _).heap.size=_;simp));rw [hs0] at q1 hX0;(have hX1:Below (W1.heap.size+1) (W1.alloc (.cells #[.int .u64 0,.string ⟨#[]⟩,.string ⟨#[]⟩,.string ⟨#[]⟩,.int .i64 0,.slice none 0 0,.slice none 0 0] 87)) u1:=⟨hX0.os,hX0.tape,hX0.output,hX0.size,hX0.block⟩);(have hX:Below W1.heap.size W1 u1:=((Below.refl _ W1).alloc nlr _).trans (hX1.mono (by omega)));(have HBG:Hid _:=Bgm.early (k:=r4) (a:=r9) (b:=r10) (c:=r11) (n:=r7) hX1 q1);(have y0:=(hX1.cell (p:=⟨W1.heap.size,0,none⟩) (by simp)).trans (World.cell?_alloc_new W1 _ _ _));(have g0:u1.frozen? ⟨W1.heap.size,0,none⟩=false:=(hX1.frozen (p:=⟨W1.heap.size,0,none⟩) (by simp)).trans (show (W1.alloc (.cells #[.int .u64 0,.string ⟨#[]⟩,.string ⟨#[]⟩,.string ⟨#[]⟩,.int .i64 0,.slice none 0 0,.slice none 0 0] 87)).frozen? ⟨W1.heap.size,0,none⟩=false by go_simp));(have y1:=(hX1.cell (p:=⟨W1.heap.size,1,none⟩) (by simp)).trans (World.cell?_alloc_new W1 _ _ _));(have g1:u1.frozen? ⟨W1.heap.size,1,none⟩=false:=(hX1.frozen (p:=⟨W1.heap.size,1,none⟩) (by simp)).trans (show (W1.alloc (.cells #[.int .u64 0,.string ⟨#[]⟩,.string ⟨#[]⟩,.string ⟨#[]⟩,.int .i64 0,.slice none 0 0,.slice none 0 0] 87)).frozen? ⟨W1.heap.size,1,none⟩=false by go_simp));(have y2:=(hX1.cell (p:=⟨W1.heap.size,2,none⟩) (by simp)).trans (World.cell?_alloc_new W1 _ _ _));(have g2:u1.frozen? ⟨W1.heap.size,2,none⟩=false:=(hX1.frozen (p:=⟨W1.heap.size,2,none⟩) (by simp)).trans (show (W1.alloc (.cells #[.int .u64 0,.string ⟨#[]⟩,.string ⟨#[]⟩,.string ⟨#[]⟩,.int .i64 0,.slice none 0 0,.slice none 0 0] 87)).frozen? ⟨W1.heap.size,2,none⟩=false by go_simp));(have y3:=(hX1.cell (p:=⟨W1.heap.size,3,none⟩) (by simp)).trans (World.cell?_alloc_new W1 _ _ _));(have g3:u1.frozen? ⟨W1.heap.size,3,none⟩=false:=(hX1.frozen (p:=⟨W1.heap.size,3,none⟩) (by simp)).trans (show (W1.alloc (.cells #[.int .u64 0,.string ⟨#[]⟩,.string ⟨#[]⟩,.string ⟨#[]⟩,.int .i64 0,.slice none 0 0,.slice none 0 0] 87)).frozen? ⟨W1.heap.size,3,none⟩=false by go_simp));(have y4:=(hX1.cell (p:=⟨W1.heap.size,4,none⟩) (by simp)).trans (World.cell?_alloc_new W1 _ _ _));(have g4:u1.frozen? ⟨W1.heap.size,4,none⟩=false:=(hX1.frozen (p:=⟨W1.heap.size,4,none⟩) (by simp)).trans (show (W1.alloc (.cells #[.int .u64 0,.string ⟨#[]⟩,.string ⟨#[]⟩,.string ⟨#[]⟩,.int .i64 0,.slice none 0 0,.slice none 0 0] 87)).frozen? ⟨W1.heap.size,4,none⟩=false by go_simp));(have y5:=(hX1.cell (p:=⟨W1.heap.size,5,none⟩) (by simp)).trans (World.cell?_alloc_new W1 _ _ _));(have g5:u1.frozen? ⟨W1.heap.size,5,none⟩=false:=(hX1.frozen (p:=⟨W1.heap.size,5,none⟩) (by simp)).trans (show (W1.alloc (.cells #[.int .u64 0,.string ⟨#[]⟩,.string ⟨#[]⟩,.string ⟨#[]⟩,.int .i64 0,.slice none 0 0,.slice none 0 0] 87)).frozen? ⟨W1.heap.size,5,none⟩=false by go_simp));(have y6:=(hX1.cell (p:=⟨W1.heap.size,6,none⟩) (by simp)).trans (World.cell?_alloc_new W1 _ _ _));(have g6:u1.frozen? ⟨W1.heap.size,6,none⟩=false:=(hX1.frozen (p:=⟨W1.heap.size,6,none⟩) (by simp)).trans (show (W1.alloc (.cells #[.int .u64 0,.string ⟨#[]⟩,.string ⟨#[]⟩,.string ⟨#[]⟩,.int .i64 0,.slice none 0 0,.slice none 0 0] 87)).frozen? ⟨W1.heap.size,6,none⟩=false by go_simp)))
       go_wp2_with fail
       refine hK.out _ _ (by first | go_keep | exact HS.out _ brf | exact HS.out _ brf.drew | exact HS.out _ hX | exact HS.out _ hX.drew | exact HS.out _ (hX.alloc hX.size _) | exact HS.out _ (brf.alloc nlr _) | exact HS.out _ ((brf.alloc nlr _).drew) | exact HS.out _ HBG.out.bel) (fun hHeld=>?_)
       clear hK K
       change wpAnyH _ _ _ _ _ _ _ { tmps:=#[.pointer (some ⟨sb,0,none⟩),.agg #[.int .i64 r0,.int .i64 r1,.int .u64 (r2:Int),.int .i64 r3,.int .u64 (r4:Int),.int .u64 (r5:Int),.int .u64 (r6:Int),.int .i64 r7,.int .i64 r8,.string (S r9),.string (S r10),.string (S r11),.slice ra rn rp],undef,.pointer (some ⟨w.heap.size,0,none⟩),.pointer (some ⟨W1.heap.size,0,none⟩),.pointer (some ⟨w.heap.size,4,none⟩),.int .u64 (r4:Int),.pointer (some ⟨w.heap.size,9,none⟩),.string (S r9),.pointer (some ⟨w.heap.size,10,none⟩),.string (S r10),.pointer (some ⟨w.heap.size,11,none⟩),.string (S r11),.pointer (some ⟨w.heap.size,7,none⟩),.int .i64 r7,.pointer (some ⟨w.heap.size,12,none⟩),.slice ra rn rp,.slice a1 rn p1,undef,undef,undef,undef,undef,undef,undef,undef,undef,undef,undef,undef,undef,undef,undef,undef,undef],defers:=[] } _
       refine wpAnyH_take (i:=13) (v:=?_) rfl (by kernel_rfl) (by kernel_rfl) (by kernel_rfl) (fun _ _ _ h=>h) (Or.inl ⟨by rfl,?_⟩) (by assumption) ?_
       rotate_left 1
       · intro w hSw;(try dsimp only at hSw);go_simp;try with_reducible rfl
       change wpAnyH _ _ _ _ _ _ _ { tmps:=#[.pointer (some ⟨sb,0,none⟩),.agg #[.int .i64 r0,.int .i64 r1,.int .u64 (r2:Int),.int .i64 r3,.int .u64 (r4:Int),.int .u64 (r5:Int),.int .u64 (r6:Int),.int .i64 r7,.int .i64 r8,.string (S r9),.string (S r10),.string (S r11),.slice ra rn rp],undef,.pointer (some ⟨w.heap.size,0,none⟩),.pointer (some ⟨W1.heap.size,0,none⟩),.pointer (some ⟨w.heap.size,4,none⟩),.int .u64 (r4:Int),.pointer (some ⟨w.heap.size,9,none⟩),.string (S r9),.pointer (some ⟨w.heap.size,10,none⟩),.string (S r10),.pointer (some ⟨w.heap.size,11,none⟩),.string (S r11),.pointer (some ⟨w.heap.size,7,none⟩),.int .i64 r7,.pointer (some ⟨w.heap.size,12,none⟩),.slice ra rn rp,.slice a1 rn p1,.agg #[.int .u64 (r4:Int),.string (S r9),.string (S r10),.string (S r11),.int .i64 r7,.slice a1 rn p1,.slice none 0 0],undef,undef,undef,undef,undef,undef,undef,undef,undef,undef,undef,undef,undef,undef,undef,undef],defers:=[] } _
       refine wpAnyH_ready (rs:=[15]) (by kernel_rfl) (by simp) ?_
       refine AllReadyH.cons rfl (fun K hK=>?_) AllReadyH.nil
       · go_simp
         refine hK.out _ _ (HS.out _ HBG.out.bel) (fun hHeld=>?_)
         clear hK K
         change wpAnyH _ _ _ _ _ _ _ { tmps:=#[.pointer (some ⟨sb,0,none⟩),.agg #[.int .i64 r0,.int .i64 r1,.int .u64 (r2:Int),.int .i64 r3,.int .u64 (r4:Int),.int .u64 (r5:Int),.int .u64 (r6:Int),.int .i64 r7,.int .i64 r8,.string (S r9),.string (S r10),.string (S r11),.slice ra rn rp],undef,.pointer (some ⟨w.heap.size,0,none⟩),.pointer (some ⟨W1.heap.size,0,none⟩),.pointer (some ⟨w.heap.size,4,none⟩),.int .u64 (r4:Int),.pointer (some ⟨w.heap.size,9,none⟩),.string (S r9),.pointer (some ⟨w.heap.size,10,none⟩),.string (S r10),.pointer (some ⟨w.heap.size,11,none⟩),.string (S r11),.pointer (some ⟨w.heap.size,7,none⟩),.int .i64 r7,.pointer (some ⟨w.heap.size,12,none⟩),.slice ra rn rp,.slice a1 rn p1,.agg #[.int .u64 (r4:Int),.string (S r9),.string (S r10),.string (S r11),.int .i64 r7,.slice a1 rn p1,.slice none 0 0],undef,undef,undef,undef,undef,undef,undef,undef,undef,undef,undef,undef,undef,undef,undef,undef],defers:=[] } _
         refine wpAnyH_done (by kernel_rfl) ?_ _
         exact ⟨a1,p1,_,rfl,HBG.out⟩
 case post =>
   clear d4 d9 d10 d11 d7 d12 HS CF
   intro e a' w' hq
   obtain ⟨rfl,a1,p1,xb,rfl,hbg⟩:e=.normal∧∃a1 p1 xb,a'={ tmps:=#[.pointer (some ⟨sb,0,none⟩),.agg #[.int .i64 r0,.int .i64 r1,.int .u64 (r2:Int),.int .i64 r3,.int .u64 (r4:Int),.int .u64 (r5:Int),.int .u64 (r6:Int),.int .i64 r7,.int .i64 r8,.string (S r9),.string (S r10),.string (S r11),.slice ra rn rp],undef,.pointer (some ⟨w.heap.size,0,none⟩),.pointer (some ⟨xb,0,none⟩),.pointer (some ⟨w.heap.size,4,none⟩),.int .u64 (r4:Int),.pointer (some ⟨w.heap.size,9,none⟩),.string (S r9),.pointer (some ⟨w.heap.size,10,none⟩),.string (S r10),.pointer (some ⟨w.heap.size,11,none⟩),.string (S r11),.pointer (some ⟨w.heap.size,7,none⟩),.int .i64 r7,.pointer (some ⟨w.heap.size,12,none⟩),.slice ra rn rp,.slice a1 rn p1,.agg #[.int .u64 (r4:Int),.string (S r9),.string (S r10),.string (S r11),.int .i64 r7,.slice a1 rn p1,.slice none 0 0],undef,undef,undef,undef,undef,undef,undef,undef,undef,undef,undef,undef,undef,undef,undef,undef],defers:=[] }∧Bgm W1 w' xb r4 r9 r10 r11 r7 (.slice a1 rn p1) rv:=by
     cases e <;> first | exact ⟨rfl,hq⟩ | exact hq.elim
   have hbw:Below w.heap.size w w':=bel_of B1.out hbg.bel nlr
   have hW1:=B1.out.size
   have hx':(Ms.r ⟨r4,r9,r10,r11,r7,.slice a1 rn p1,.slice none 0 0,rv,[]⟩).ok w.heap.size w':=(Own.base (Own.single (r:=Ms.r ⟨r4,r9,r10,r11,r7,.slice a1 rn p1,.slice none 0 0,rv,[]⟩) hbg.row) hW1).own _ (List.mem_cons_self ..)
   have hS':=HH.out.up hbw
   obtain ⟨aI,cI,hsI,-⟩:=row_slice hS'.rMs
   have CP:Hid (Calls Tryz.prog 107 #[s.vMs,.agg (Ms.c ⟨r4,r9,r10,r11,r7,.slice a1 rn p1,.slice none 0 0,rv,[]⟩).toArray,.func (.func 108) #[] #[],.func (.func 74) #[] #[]] w'.drew (PtMs B w'.drew s.vMs (putL Ms.kk ltU s.msgs ⟨r4,r9,r10,r11,r7,.slice a1 rn p1,.slice none 0 0,rv,[]⟩))):=putMs_any ⟨r4,r9,r10,r11,r7,.slice a1 rn p1,.slice none 0 0,rv,[]⟩ (w:=w'.drew) hS'.rMs (Nat.le_trans hB hbw.size) hz ⟨_,_,_,rfl⟩ hsl ⟨_,_,_,rfl⟩ hsl2
   have HE:Hid (∀v3 w3,w3.ownsRow B 87 7 v3 (putL Ms.kk ltU s.msgs ⟨r4,r9,r10,r11,r7,.slice a1 rn p1,.slice none 0 0,rv,[]⟩).length ((putL Ms.kk ltU s.msgs ⟨r4,r9,r10,r11,r7,.slice a1 rn p1,.slice none 0 0,rv,[]⟩).flatMap Ms.c)→Ch (fun g=>s.vMs.ownBlock=some g) w'.drew w3→(∀g,v3.ownBlock=some g→s.vMs.ownBlock=some g∨w'.drew.heap.size≤g)→Eff B w sb (ePublished s.e ⟨r0,r1,r2,r3,r4,r5,r6,r7,r8,r9,r10,r11,.slice ra rn rp,rv⟩) ((w3.setCell ⟨sb,11,none⟩ v3).setCell ⟨sb,2,none⟩ (.int .u64 (up1 s.made:Int)))∧(∀(j:Nat) (u:Value),s.c[j]?=some u→w3.cell? ⟨sb,j,none⟩=some u)∧(∀j:Nat,w3.frozen? ⟨sb,j,none⟩=false)):=by
     intro v3 w3 hr3 hc3 hn3
     obtain ⟨k1,k2,k3⟩:=HH.out.putMs (w1:=w'.drew) (w2:=w3) hbw.drew hB hx' (World.ownsRow_nil _ _ _ _) hr3 hc3 hn3
     have hb3:Below B w w3:=(hbw.drew.mono hB).trans ((Own.ge hc3 (Nat.le_trans hB hbw.size) (fun g hg=>(hS'.rMs.lt g hg).1)))
     refine ⟨⟨_,k1 _,?_,?_⟩,k2,k3⟩
     · simp only [St.e,ePublished]
       rw [putL_map Ms.kk ltU s.msgs _ Ms.e (fun y=>rfl)]
       rfl
     · have hl:=HH.out.lt
       refine (hb3.trans (Ch.below (((Ch.refl (fun b=>b=sb) w3).setCell ⟨sb,11,none⟩ v3 (fun _=>rfl)).setCell ⟨sb,2,none⟩ _ (fun _=>rfl)) (Nat.le_trans hB (Nat.le_trans hbw.size hc3.size)) (fun g hg e=>by omega)))
   have m4:=hS'.cell (j:=11) (u:=s.vMs) rfl
   have f4:=hS'.fro 11
   have hxo:=hbg.obj
   have z0:w'.cell? ⟨xb,0,none⟩=some (.int .u64 (r4:Int)):=by simp [World.cell?,hxo]
   have z1:w'.cell? ⟨xb,1,none⟩=some (.string (S r9)):=by simp [World.cell?,hxo]
   have z2:w'.cell? ⟨xb,2,none⟩=some (.string (S r10)):=by simp [World.cell?,hxo]
   have z3:w'.cell? ⟨xb,3,none⟩=some (.string (S r11)):=by simp [World.cell?,hxo]
   have z4:w'.cell? ⟨xb,4,none⟩=some (.int .i64 r7):=by simp [World.cell?,hxo]
   have z5:w'.cell? ⟨xb,5,none⟩=some (.slice a1 rn p1):=by simp [World.cell?,hxo]
   have z6:w'.cell? ⟨xb,6,none⟩=some (.slice none 0 0):=by simp [World.cell?,hxo]
   have hU:=up1_wrap s.made
   simp only [Ms.c] at CP
   rw [hsI] at CP HE m4
   clear hq hx' hS' hbg hxo hsI hbw hsl hsl2 hz hB
   go_wp2
   go_region_with (first
     | (go_at_call 107;refine CP.out.mono ?_;rintro e w3 ⟨v3,rfl,hr3,hc3,hn3⟩;obtain ⟨a3,d3,hs3,-⟩:=row_slice hr3;subst hs3;obtain ⟨k1,k2,k3⟩:=HE.out _ w3 hr3 hc3 hn3;(have K1:Hid _:=k1);(have m2:=k2 2 _ rfl);(have m5:=k2 11 _ rfl);(have f2:=k3 2);(have f5:=k3 11);clear k1 k2 k3 hr3 hc3 hn3))
   all_goals
     go_wp2
     go_end0
     exact ⟨rfl,K1.out⟩
end Go.Proofs.YtmfempdcpoeicaaGreat.f13
