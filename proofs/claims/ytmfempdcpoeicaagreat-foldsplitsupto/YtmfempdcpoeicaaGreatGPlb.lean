/-
  Keys that are places.
-/
import Derived.Test.YtmfempdcpoeicaaGreatF13Ix
import Derived.Laws.Rows
import Derived.Deep.RegionHeld3
set_option maxHeartbeats 2000000
set_option maxRecDepth 100000
namespace Go.Proofs.YtmfempdcpoeicaaGreat.f13
open Go.RowKit Go.Shelf Go.Sort
open Go.Lib hiding intOf

theorem sizeP:(Tryz.prog.info? 135).map (·.size)=some 2:=by kernel_rfl
def ltP (a b:Nat × Int):Bool:=decide (a.1<b.1) || (a.1==b.1&&decide (a.2<b.2))
def cmpv (a b:Int):Int:=if a<b then -1 else if b<a then 1 else 0

theorem cmpU_any (a b:Int) (w:World):Calls Tryz.prog 150 #[.int .u64 a,.int .u64 b] w fun e w'=>e=.returned (.int .i64 (cmpv a b))∧w'=w:=by
 unfold cmpv
 by_cases h1:a<b
 · rw [if_pos h1]
   go_enter Tryz.func150,Tryz.ntmps150
   go_wp2
   go_ret
   exact ⟨rfl,rfl⟩
 · by_cases h2:b<a
   · rw [if_neg h1,if_pos h2]
     go_enter Tryz.func150,Tryz.ntmps150
     go_wp2
     go_ret
     exact ⟨rfl,rfl⟩
   · rw [if_neg h1,if_neg h2]
     go_enter Tryz.func150,Tryz.ntmps150
     go_wp2
     go_ret
     exact ⟨rfl,rfl⟩

theorem cmpI_any (a b:Int) (w:World):Calls Tryz.prog 151 #[.int .i64 a,.int .i64 b] w fun e w'=>e=.returned (.int .i64 (cmpv a b))∧w'=w:=by
 unfold cmpv
 by_cases h1:a<b
 · rw [if_pos h1]
   go_enter Tryz.func151,Tryz.ntmps151
   go_wp2
   go_ret
   exact ⟨rfl,rfl⟩
 · by_cases h2:b<a
   · rw [if_neg h1,if_pos h2]
     go_enter Tryz.func151,Tryz.ntmps151
     go_wp2
     go_ret
     exact ⟨rfl,rfl⟩
   · rw [if_neg h1,if_neg h2]
     go_enter Tryz.func151,Tryz.ntmps151
     go_wp2
     go_ret
     exact ⟨rfl,rfl⟩

theorem or_any {a b:Int} {w:World} {g cap:Nat} (h0:w.cell? ⟨g,0,none⟩=some (.int .i64 a)) (h1:w.cell? ⟨g,1,none⟩=some (.int .i64 b)):Calls Tryz.prog 149 #[.slice (some ⟨g,0,none⟩) 2 cap] w fun e w'=>e=.returned (.int .i64 (if a=0 then b else a))∧w'=w:=by
 go_enter Tryz.func149,Tryz.ntmps149
 go_wp2
 go_loopw [8] (fun v8 wr=>∃j:Nat,v8=.int .i64 (j:Int)∧j≤2∧wr=w∧(0<j→a=0)∧(1<j→b=0)) (fun v8 _=>2-(intOf v8).toNat)
 case atStart=>exact ⟨0,rfl,by omega,rfl,by omega,by omega⟩
 case round =>
   obtain ⟨j,rfl,hj,rfl,ha,hb⟩:=hrel
   match j,hj with
   | 0,_ =>
     by_cases h:a=0
     · subst h
       go_wp2
       go_roundw
       case rel=>exact ⟨1,by simp,by omega,by trivial,by simp,by omega⟩
       case measure=>simp [intOf]
     · have h':(a != 0)=true:=by simpa using h
       go_wp2
       go_ret
       exact ⟨by simp,rfl⟩
   | 1,_ =>
     have ha0:=ha (by omega)
     subst ha0
     by_cases h:b=0
     · subst h
       go_wp2
       go_roundw
       case rel=>exact ⟨2,by simp,by omega,by trivial,by simp,by simp⟩
       case measure=>simp [intOf]
     · have h':(b != 0)=true:=by simpa using h
       go_wp2
       go_ret
       exact ⟨by simp,rfl⟩
   | 2,_ =>
     have ha0:=ha (by omega)
     have hb0:=hb (by omega)
     subst ha0 hb0
     go_wp2
     go_ret
     exact ⟨by simp,rfl⟩

theorem keyTm_any (x:Tm) (w:World):Calls Tryz.prog 89 #[.agg (Tm.c x).toArray] w fun e w'=>e=.returned (kP x.kk)∧Below w.heap.size w w':=by
 obtain ⟨x0,x1,x2⟩:=x
 simp only [Tm.c,Tm.kk,kP]
 have hb:Below w.heap.size w ((w.alloc (.cells #[.int .u64 (x0:Int),.int .i64 x1,.int .i64 x2] 72)).alloc (.cells #[.int .u64 (x0:Int),.int .i64 x1] 135)):=((Below.refl _ w).alloc nlr _).alloc (by simp) _
 have hg:=heap_alloc_new (w.alloc (.cells #[.int .u64 (x0:Int),.int .i64 x1,.int .i64 x2] 72)) (.cells #[.int .u64 (x0:Int),.int .i64 x1] 135)
 rw [World.size_alloc] at hg
 have HB:Hid _:=hb
 have HG:Hid _:=hg
 clear hb hg
 go_enter Tryz.func89,Tryz.ntmps89
 go_wp2
 refine bodyPost_ret (results_cell_row rfl _ _ (w.heap.size+1) 135 _ (0,0) _ rfl HG.out Tryz.underlying135 rfl sizeP) rfl ?_
 exact ⟨rfl,HB.out⟩

theorem keySb_any (x:Sb) (w:World):Calls Tryz.prog 92 #[.agg (Sb.c x).toArray] w fun e w'=>e=.returned (kP x.kk)∧Below w.heap.size w w':=by
 obtain ⟨x0,x1,x2,x3,x4,x5⟩:=x
 simp only [Sb.c,Sb.kk,kP]
 have hb:Below w.heap.size w ((w.alloc (.cells #[.int .u64 (x0:Int),.int .u64 (x1:Int),.int .i64 x2,.string (S x3),.string (S x4),.bool x5] 75)).alloc (.cells #[.int .u64 (x0:Int),.int .i64 x2] 135)):=((Below.refl _ w).alloc nlr _).alloc (by simp) _
 have hg:=heap_alloc_new (w.alloc (.cells #[.int .u64 (x0:Int),.int .u64 (x1:Int),.int .i64 x2,.string (S x3),.string (S x4),.bool x5] 75)) (.cells #[.int .u64 (x0:Int),.int .i64 x2] 135)
 rw [World.size_alloc] at hg
 have HB:Hid _:=hb
 have HG:Hid _:=hg
 clear hb hg
 go_enter Tryz.func92,Tryz.ntmps92
 go_wp2
 refine bodyPost_ret (results_cell_row rfl _ _ (w.heap.size+1) 135 _ (0,0) _ rfl HG.out Tryz.underlying135 rfl sizeP) rfl ?_
 exact ⟨rfl,HB.out⟩

theorem keyKp_any (x:Kp) (w:World):Calls Tryz.prog 104 #[.agg (Kp.c x).toArray] w fun e w'=>e=.returned (kP x.kk)∧Below w.heap.size w w':=by
 obtain ⟨x0,x1,x2⟩:=x
 simp only [Kp.c,Kp.kk,kP]
 have hb:Below w.heap.size w ((w.alloc (.cells #[.int .u64 (x0:Int),.int .u64 (x1:Int),.int .i64 x2] 78)).alloc (.cells #[.int .u64 (x0:Int),.int .i64 x2] 135)):=((Below.refl _ w).alloc nlr _).alloc (by simp) _
 have hg:=heap_alloc_new (w.alloc (.cells #[.int .u64 (x0:Int),.int .u64 (x1:Int),.int .i64 x2] 78)) (.cells #[.int .u64 (x0:Int),.int .i64 x2] 135)
 rw [World.size_alloc] at hg
 have HB:Hid _:=hb
 have HG:Hid _:=hg
 clear hb hg
 go_enter Tryz.func104,Tryz.ntmps104
 go_wp2
 refine bodyPost_ret (results_cell_row rfl _ _ (w.heap.size+1) 135 _ (0,0) _ rfl HG.out Tryz.underlying135 rfl sizeP) rfl ?_
 exact ⟨rfl,HB.out⟩

theorem keyLs_any (x:Ls) (w:World) (h6:∃a n c,x.vv=.slice a n c):Calls Tryz.prog 106 #[.agg (Ls.c x).toArray] w fun e w'=>e=.returned (kP x.kk)∧Below w.heap.size w w':=by
 obtain ⟨sa,sn,sc,h6⟩:=h6
 obtain ⟨x0,x1,x2,x3,x4,x5,x6,_⟩:=x
 simp only at h6
 subst h6
 simp only [Ls.c,Ls.kk,kP]
 have hb:Below w.heap.size w ((w.alloc (.cells #[.int .u64 (x0:Int),.int .u64 (x1:Int),.int .i64 x2,.string (S x3),.string (S x4),.int .u64 (x5:Int),(.slice sa sn sc)] 81)).alloc (.cells #[.int .u64 (x0:Int),.int .i64 x2] 135)):=((Below.refl _ w).alloc nlr _).alloc (by simp) _
 have hg:=heap_alloc_new (w.alloc (.cells #[.int .u64 (x0:Int),.int .u64 (x1:Int),.int .i64 x2,.string (S x3),.string (S x4),.int .u64 (x5:Int),.slice sa sn sc] 81)) (.cells #[.int .u64 (x0:Int),.int .i64 x2] 135)
 rw [World.size_alloc] at hg
 have HB:Hid _:=hb
 have HG:Hid _:=hg
 clear hb hg
 go_enter Tryz.func106,Tryz.ntmps106
 go_wp2
 refine bodyPost_ret (results_cell_row rfl _ _ (w.heap.size+1) 135 _ (0,0) _ rfl HG.out Tryz.underlying135 rfl sizeP) rfl ?_
 exact ⟨rfl,HB.out⟩

theorem ltP_eq (a0 b0:Nat) (a1 b1:Int):decide ((if cmpv (a0:Int) (b0:Int)=0 then cmpv a1 b1 else cmpv (a0:Int) (b0:Int))<0)=ltP (a0,a1) (b0,b1):=by
 unfold ltP cmpv
 rcases Nat.lt_trichotomy a0 b0 with h | h | h
 · have h1:(a0:Int)<b0:=by omega
   simp [h1,h]
 · subst h
   simp
   by_cases h2:a1<b1
   · simp [h2]
   · by_cases h3:b1<a1
     · simp [h2,h3]
     · simp [h2,h3]
 · have h1:¬(a0:Int)<b0:=by omega
   have h2:(b0:Int)<a0:=by omega
   have h3:¬a0<b0:=by omega
   have h4:¬a0=b0:=by omega
   simp [h1,h2,h3,h4]
theorem eqP (a0 b0:Nat) (a1 b1:Int) (W:World):(binOp .eql 135 (.agg #[.int .u64 (a0:Int),.int .i64 a1]) (.agg #[.int .u64 (b0:Int),.int .i64 b1])).run Tryz.prog W=.ok (.bool ((a0,a1)==(b0,b1))) W:=by
 by_cases h0:a0=b0
 · subst h0
   by_cases h1:a1=b1
   · subst h1
     have hE:((a0,a1)==(a0,a1))=true:=by simp
     rw [hE]
     go_simp
   · have hE:((a0,a1)==(a0,b1))=false:=by simp [h1]
     have h2:(a1==b1)=false:=beq_eq_false_iff_ne.2 h1
     rw [hE]
     go_simp
 · have hE:((a0,a1)==(b0,b1))=false:=by simp [h0]
   have h2:((a0:Int)==(b0:Int))=false:=beq_eq_false_iff_ne.2 (by omega)
   rw [hE]
   go_simp
theorem lessP_any (a b:Nat × Int) (w:World):Calls Tryz.prog 90 #[kP a,kP b] w fun e w'=>e=.returned (.bool (ltP a b))∧Below w.heap.size w w':=by
 obtain ⟨a0,a1⟩:=a
 obtain ⟨b0,b1⟩:=b
 simp only [kP]
 have HL:Hid _:=ltP_eq a0 b0 a1 b1
 have CU:=cmpU_any (a0:Int) (b0:Int)
 have CI:=cmpI_any a1 b1
 have hb0:Below w.heap.size w ((w.alloc (.cells #[.int .u64 (a0:Int),.int .i64 a1] 135)).alloc (.cells #[.int .u64 (b0:Int),.int .i64 b1] 135)):=((Below.refl _ w).alloc nlr _).alloc (by simp) _
 have HS:Hid (∀W,Below ((w.alloc (.cells #[.int .u64 (a0:Int),.int .i64 a1] 135)).alloc (.cells #[.int .u64 (b0:Int),.int .i64 b1] 135)).heap.size ((w.alloc (.cells #[.int .u64 (a0:Int),.int .i64 a1] 135)).alloc (.cells #[.int .u64 (b0:Int),.int .i64 b1] 135)) W→W.cell? ⟨w.heap.size,0,none⟩=some (.int .u64 (a0:Int))∧W.cell? ⟨w.heap.size,1,none⟩=some (.int .i64 a1)∧W.cell? ⟨w.heap.size+1,0,none⟩=some (.int .u64 (b0:Int))∧W.cell? ⟨w.heap.size+1,1,none⟩=some (.int .i64 b1)):=by
   intro W hW
   have e0:((w.alloc (.cells #[.int .u64 (a0:Int),.int .i64 a1] 135)).alloc (.cells #[.int .u64 (b0:Int),.int .i64 b1] 135)).heap.size=w.heap.size+2:=by simp
   rw [e0] at hW
   refine ⟨?_,?_,?_,?_⟩
   · exact (hW.cell (p:=⟨w.heap.size,0,none⟩) (by simp only;omega)).trans (by go_simp)
   · exact (hW.cell (p:=⟨w.heap.size,1,none⟩) (by simp only;omega)).trans (by go_simp)
   · exact (hW.cell (p:=⟨w.heap.size+1,0,none⟩) (by simp only;omega)).trans (by go_simp)
   · exact (hW.cell (p:=⟨w.heap.size+1,1,none⟩) (by simp only;omega)).trans (by go_simp)
 have B0:Hid (Below w.heap.size w ((w.alloc (.cells #[.int .u64 (a0:Int),.int .i64 a1] 135)).alloc (.cells #[.int .u64 (b0:Int),.int .i64 b1] 135))):=hb0
 clear hb0
 go_enter Tryz.func90,Tryz.ntmps90
 go_wp2
 generalize ((w.alloc (.cells #[.int .u64 (a0:Int),.int .i64 a1] 135)).alloc (.cells #[.int .u64 (b0:Int),.int .i64 b1] 135))=W1 at *
 obtain ⟨c0,c1,c2,c3⟩:=HS.out _ brf
 generalize hA:cmpv (a0:Int) (b0:Int)=A at *
 generalize hC:cmpv a1 b1=C at *
 obtain ⟨V,hV⟩:∃V:Int,V=if A=0 then C else A:=⟨_,rfl⟩
 rw [← hV] at HL
 have HO:Hid (∀(W:World) (g cap:Nat),W.cell? ⟨g,0,none⟩=some (.int .i64 A)→W.cell? ⟨g,1,none⟩=some (.int .i64 C)→Calls Tryz.prog 149 #[.slice (some ⟨g,0,none⟩) 2 cap] W fun e w'=>e=.returned (.int .i64 V)∧w'=W):=fun W g cap q0 q1=>by rw [hV];exact or_any q0 q1
 clear hV
 go_region_held3 (fun W=>W.cell? ⟨w.heap.size,0,none⟩=some (.int .u64 (a0:Int))∧W.cell? ⟨w.heap.size,1,none⟩=some (.int .i64 a1)∧W.cell? ⟨w.heap.size+1,0,none⟩=some (.int .u64 (b0:Int))∧W.cell? ⟨w.heap.size+1,1,none⟩=some (.int .i64 b1))
   (first | go_keep | exact HS.out _ brf | exact HS.out _ brf.drew | exact HS.out _ (brf.alloc nlr _) | exact HS.out _ ((brf.drew).alloc nlr _))
   (first
     | (go_at_call 150;refine (CU _).mono ?_;rintro e u1 ⟨rfl,hu1⟩;rw [hu1];clear hu1)
     | (go_at_call 151;refine (CI _).mono ?_;rintro e u2 ⟨rfl,hu2⟩;rw [hu2];clear hu2)
     | (go_at_call 149;refine (HO.out _ _ _ (World.cell?_alloc_new _ _ _ _) (World.cell?_alloc_new _ _ _ _)).mono ?_;rintro e u3 ⟨rfl,hu3⟩;rw [hu3];clear hu3))
 all_goals
   go_wp2
   go_ret
   rw [← HL.out]
   exact ⟨by simp,B0.out.trans (by first | exact ((Below.refl _ W1).drew).alloc B0.out.size _ | exact (Below.refl _ W1).alloc B0.out.size _ | exact ((Below.refl _ W1).alloc B0.out.size _).drew)⟩

theorem ofTm1_any (x : Tm) (y : Nat × Int) {w : World} {kb wb : Nat} (hk : w.cell? ⟨kb, 0, none⟩ = some (.func (.func 89) #[] #[])) (hy : w.cell? ⟨wb, 0, none⟩ = some (.int .u64 (y.1 : Int)) ∧ w.cell? ⟨wb, 1, none⟩ = some (.int .i64 y.2)) :
   Calls Tryz.prog 184 #[.agg (Tm.c x).toArray,.pointer (some ⟨kb,0,none⟩),.pointer (some ⟨wb,0,none⟩)] w fun e w'=>e=.returned (.bool (x.kk==y))∧Below w.heap.size w w':=by
 have CK:=fun W=>keyTm_any x W
 have hkl:=World.block_lt_of_cell? w _ hk
 have hyl:=World.block_lt_of_cell? w _ hy.1
 obtain ⟨y0,y1⟩:=y
 obtain ⟨x0,x1,x2⟩:=x
 simp only [Tm.c,Tm.kk,kP] at CK hy ⊢
 have hq:=eqP x0 y0 x1 y1
 generalize ((x0,x1)==(y0,y1))=bb at *
 have hb0:Below w.heap.size w (w.alloc (.cells #[.int .u64 (x0:Int),.int .i64 x1,.int .i64 x2] 72)):=(Below.refl _ w).alloc nlr _
 have HS:Hid (∀W,Below (w.alloc (.cells #[.int .u64 (x0:Int),.int .i64 x1,.int .i64 x2] 72)).heap.size (w.alloc (.cells #[.int .u64 (x0:Int),.int .i64 x1,.int .i64 x2] 72)) W→W.cell? ⟨kb,0,none⟩=some (.func (.func 89) #[] #[])∧W.cell? ⟨w.heap.size,0,none⟩=some (.int .u64 (x0:Int))∧W.cell? ⟨w.heap.size,1,none⟩=some (.int .i64 x1)∧W.cell? ⟨w.heap.size,2,none⟩=some (.int .i64 x2)∧W.cell? ⟨wb,0,none⟩=some (.int .u64 (y0:Int))∧W.cell? ⟨wb,1,none⟩=some (.int .i64 y1)):=by
   intro W hW
   have hsz:w.heap.size<(w.alloc (.cells #[.int .u64 (x0:Int),.int .i64 x1,.int .i64 x2] 72)).heap.size:=by simp
   exact ⟨(hW.cell (p:=⟨kb,0,none⟩) (by simp at hkl ⊢;omega)).trans ((hb0.cell (p:=⟨kb,0,none⟩) hkl).trans hk),(hW.cell (p:=⟨w.heap.size,0,none⟩) hsz).trans (World.cell?_alloc_new _ _ _ _),(hW.cell (p:=⟨w.heap.size,1,none⟩) hsz).trans (World.cell?_alloc_new _ _ _ _),(hW.cell (p:=⟨w.heap.size,2,none⟩) hsz).trans (World.cell?_alloc_new _ _ _ _),(hW.cell (p:=⟨wb,0,none⟩) (by simp at hyl ⊢;omega)).trans ((hb0.cell (p:=⟨wb,0,none⟩) hyl).trans hy.1),(hW.cell (p:=⟨wb,1,none⟩) (by simp at hyl ⊢;omega)).trans ((hb0.cell (p:=⟨wb,1,none⟩) hyl).trans hy.2)⟩
 have B1:Hid (Below w.heap.size w (w.alloc (.cells #[.int .u64 (x0:Int),.int .i64 x1,.int .i64 x2] 72))):=hb0
 clear hb0 hk hy hkl hyl
 go_enter Tryz.func184,Tryz.ntmps184
 go_wp2
 generalize (w.alloc (.cells #[.int .u64 (x0:Int),.int .i64 x1,.int .i64 x2] 72))=W1 at *
 obtain ⟨c0,c1,c2,c3,c4,c5⟩:=HS.out _ brf
 go_region_held3 (fun W=>W.cell? ⟨kb,0,none⟩=some (.func (.func 89) #[] #[])∧W.cell? ⟨w.heap.size,0,none⟩=some (.int .u64 (x0:Int))∧W.cell? ⟨w.heap.size,1,none⟩=some (.int .i64 x1)∧W.cell? ⟨w.heap.size,2,none⟩=some (.int .i64 x2)∧W.cell? ⟨wb,0,none⟩=some (.int .u64 (y0:Int))∧W.cell? ⟨wb,1,none⟩=some (.int .i64 y1))
   (first | go_keep | exact HS.out _ brf | exact HS.out _ brf.drew | exact HS.out _ hX)
   (first | (go_at_call 89;refine (CK _).mono ?_;rintro e u1 ⟨rfl,hX0⟩;(have hX:Below W1.heap.size W1 u1:=(Below.refl _ W1).drew.trans (hX0.mono nlr));(have B2:Hid (Below w.heap.size w u1):=bel_of B1.out hX nlr);clear hX0))
 all_goals
   go_wp2
   go_ret
   exact ⟨rfl,B2.out⟩

theorem ofTm_any (y:Nat × Int) (w:World):Calls Tryz.prog 146 #[(.func (.func 89) #[] #[]),kP y] w fun e w'=>∃caps,e=.returned (.func (.func 184) #[] caps)∧(∀(X:Nat→Prop),(∀g,X g→g<w.heap.size)→∀x:Tm,Say X w' 184 caps #[.agg (Tm.c x).toArray] (x.kk==y))∧Below w.heap.size w w':=by
 have HE:Hid (∀(X:Nat→Prop),(∀g,X g→g<w.heap.size)→∀x:Tm,Say X ((w.alloc (.cells #[(.func (.func 89) #[] #[])] 136)).alloc (.cells #[.int .u64 (y.1:Int),.int .i64 y.2] 135)) 184 #[.pointer (some ⟨w.heap.size,0,none⟩),.pointer (some ⟨w.heap.size+1,0,none⟩)] #[.agg (Tm.c x).toArray] (x.kk==y)):=by
   intro X hX x W hW
   have g0:=World.cell?_alloc_new (w.alloc (.cells #[(.func (.func 89) #[] #[])] 136)) #[.int .u64 (y.1:Int),.int .i64 y.2] 135 0
   have g1:=World.cell?_alloc_new (w.alloc (.cells #[(.func (.func 89) #[] #[])] 136)) #[.int .u64 (y.1:Int),.int .i64 y.2] 135 1
   rw [World.size_alloc] at g0 g1
   have hne:¬X (w.heap.size+1):=fun e=>by have:=hX _ e;omega
   refine ofTm1_any x y (hW.cell (p:=⟨w.heap.size,0,none⟩) ((Bx.new w (.func (.func 89) #[] #[]) 136).alloc _).cell (fun e=>by have:=hX _ e;simp only at this;omega)) ⟨hW.cell (p:=⟨w.heap.size+1,0,none⟩) g0 hne,hW.cell (p:=⟨w.heap.size+1,1,none⟩) g1 hne⟩
 have B1:Hid (Below w.heap.size w ((w.alloc (.cells #[(.func (.func 89) #[] #[])] 136)).alloc (.cells #[.int .u64 (y.1:Int),.int .i64 y.2] 135))):=((Below.refl _ w).alloc nlr _).alloc (by simp) _
 simp only [kP] at HE B1 ⊢
 go_enter Tryz.func146,Tryz.ntmps146
 go_wp2
 go_ret
 exact ⟨_,rfl,HE.out,B1.out⟩

theorem ofSb1_any (x : Sb) (y : Nat × Int) {w : World} {kb wb : Nat} (hk : w.cell? ⟨kb, 0, none⟩ = some (.func (.func 92) #[] #[])) (hy : w.cell? ⟨wb, 0, none⟩ = some (.int .u64 (y.1 : Int)) ∧ w.cell? ⟨wb, 1, none⟩ = some (.int .i64 y.2)) :
   Calls Tryz.prog 155 #[.agg (Sb.c x).toArray,.pointer (some ⟨kb,0,none⟩),.pointer (some ⟨wb,0,none⟩)] w fun e w'=>e=.returned (.bool (x.kk==y))∧Below w.heap.size w w':=by
 have CK:=fun W=>keySb_any x W
 have hkl:=World.block_lt_of_cell? w _ hk
 have hyl:=World.block_lt_of_cell? w _ hy.1
 obtain ⟨y0,y1⟩:=y
 obtain ⟨x0,x1,x2,x3,x4,x5⟩:=x
 simp only [Sb.c,Sb.kk,kP] at CK hy ⊢
 have hq:=eqP x0 y0 x2 y1
 generalize ((x0,x2)==(y0,y1))=bb at *
 have hb0:Below w.heap.size w (w.alloc (.cells #[.int .u64 (x0:Int),.int .u64 (x1:Int),.int .i64 x2,.string (S x3),.string (S x4),.bool x5] 75)):=(Below.refl _ w).alloc nlr _
 have HS:Hid (∀W,Below (w.alloc (.cells #[.int .u64 (x0:Int),.int .u64 (x1:Int),.int .i64 x2,.string (S x3),.string (S x4),.bool x5] 75)).heap.size (w.alloc (.cells #[.int .u64 (x0:Int),.int .u64 (x1:Int),.int .i64 x2,.string (S x3),.string (S x4),.bool x5] 75)) W→W.cell? ⟨kb,0,none⟩=some (.func (.func 92) #[] #[])∧W.cell? ⟨w.heap.size,0,none⟩=some (.int .u64 (x0:Int))∧W.cell? ⟨w.heap.size,1,none⟩=some (.int .u64 (x1:Int))∧W.cell? ⟨w.heap.size,2,none⟩=some (.int .i64 x2)∧W.cell? ⟨w.heap.size,3,none⟩=some (.string (S x3))∧W.cell? ⟨w.heap.size,4,none⟩=some (.string (S x4))∧W.cell? ⟨w.heap.size,5,none⟩=some (.bool x5)∧W.cell? ⟨wb,0,none⟩=some (.int .u64 (y0:Int))∧W.cell? ⟨wb,1,none⟩=some (.int .i64 y1)):=by
   intro W hW
   have hsz:w.heap.size<(w.alloc (.cells #[.int .u64 (x0:Int),.int .u64 (x1:Int),.int .i64 x2,.string (S x3),.string (S x4),.bool x5] 75)).heap.size:=by simp
   exact ⟨(hW.cell (p:=⟨kb,0,none⟩) (by simp at hkl ⊢;omega)).trans ((hb0.cell (p:=⟨kb,0,none⟩) hkl).trans hk),(hW.cell (p:=⟨w.heap.size,0,none⟩) hsz).trans (World.cell?_alloc_new _ _ _ _),(hW.cell (p:=⟨w.heap.size,1,none⟩) hsz).trans (World.cell?_alloc_new _ _ _ _),(hW.cell (p:=⟨w.heap.size,2,none⟩) hsz).trans (World.cell?_alloc_new _ _ _ _),(hW.cell (p:=⟨w.heap.size,3,none⟩) hsz).trans (World.cell?_alloc_new _ _ _ _),(hW.cell (p:=⟨w.heap.size,4,none⟩) hsz).trans (World.cell?_alloc_new _ _ _ _),(hW.cell (p:=⟨w.heap.size,5,none⟩) hsz).trans (World.cell?_alloc_new _ _ _ _),(hW.cell (p:=⟨wb,0,none⟩) (by simp at hyl ⊢;omega)).trans ((hb0.cell (p:=⟨wb,0,none⟩) hyl).trans hy.1),(hW.cell (p:=⟨wb,1,none⟩) (by simp at hyl ⊢;omega)).trans ((hb0.cell (p:=⟨wb,1,none⟩) hyl).trans hy.2)⟩
 have B1:Hid (Below w.heap.size w (w.alloc (.cells #[.int .u64 (x0:Int),.int .u64 (x1:Int),.int .i64 x2,.string (S x3),.string (S x4),.bool x5] 75))):=hb0
 clear hb0 hk hy hkl hyl
 go_enter Tryz.func155,Tryz.ntmps155
 go_wp2
 generalize (w.alloc (.cells #[.int .u64 (x0:Int),.int .u64 (x1:Int),.int .i64 x2,.string (S x3),.string (S x4),.bool x5] 75))=W1 at *
 obtain ⟨c0,c1,c2,c3,c4,c5,c6,c7,c8⟩:=HS.out _ brf
 go_region_held3 (fun W=>W.cell? ⟨kb,0,none⟩=some (.func (.func 92) #[] #[])∧W.cell? ⟨w.heap.size,0,none⟩=some (.int .u64 (x0:Int))∧W.cell? ⟨w.heap.size,1,none⟩=some (.int .u64 (x1:Int))∧W.cell? ⟨w.heap.size,2,none⟩=some (.int .i64 x2)∧W.cell? ⟨w.heap.size,3,none⟩=some (.string (S x3))∧W.cell? ⟨w.heap.size,4,none⟩=some (.string (S x4))∧W.cell? ⟨w.heap.size,5,none⟩=some (.bool x5)∧W.cell? ⟨wb,0,none⟩=some (.int .u64 (y0:Int))∧W.cell? ⟨wb,1,none⟩=some (.int .i64 y1))
   (first | go_keep | exact HS.out _ brf | exact HS.out _ brf.drew | exact HS.out _ hX)
   (first | (go_at_call 92;refine (CK _).mono ?_;rintro e u1 ⟨rfl,hX0⟩;(have hX:Below W1.heap.size W1 u1:=(Below.refl _ W1).drew.trans (hX0.mono nlr));(have B2:Hid (Below w.heap.size w u1):=bel_of B1.out hX nlr);clear hX0))
 all_goals
   go_wp2
   go_ret
   exact ⟨rfl,B2.out⟩

theorem ofSb_any (y:Nat × Int) (w:World):Calls Tryz.prog 94 #[(.func (.func 92) #[] #[]),kP y] w fun e w'=>∃caps,e=.returned (.func (.func 155) #[] caps)∧(∀(X:Nat→Prop),(∀g,X g→g<w.heap.size)→∀x:Sb,Say X w' 155 caps #[.agg (Sb.c x).toArray] (x.kk==y))∧Below w.heap.size w w':=by
 have HE:Hid (∀(X:Nat→Prop),(∀g,X g→g<w.heap.size)→∀x:Sb,Say X ((w.alloc (.cells #[(.func (.func 92) #[] #[])] 140)).alloc (.cells #[.int .u64 (y.1:Int),.int .i64 y.2] 135)) 155 #[.pointer (some ⟨w.heap.size,0,none⟩),.pointer (some ⟨w.heap.size+1,0,none⟩)] #[.agg (Sb.c x).toArray] (x.kk==y)):=by
   intro X hX x W hW
   have g0:=World.cell?_alloc_new (w.alloc (.cells #[(.func (.func 92) #[] #[])] 140)) #[.int .u64 (y.1:Int),.int .i64 y.2] 135 0
   have g1:=World.cell?_alloc_new (w.alloc (.cells #[(.func (.func 92) #[] #[])] 140)) #[.int .u64 (y.1:Int),.int .i64 y.2] 135 1
   rw [World.size_alloc] at g0 g1
   have hne:¬X (w.heap.size+1):=fun e=>by have:=hX _ e;omega
   refine ofSb1_any x y (hW.cell (p:=⟨w.heap.size,0,none⟩) ((Bx.new w (.func (.func 92) #[] #[]) 140).alloc _).cell (fun e=>by have:=hX _ e;simp only at this;omega)) ⟨hW.cell (p:=⟨w.heap.size+1,0,none⟩) g0 hne,hW.cell (p:=⟨w.heap.size+1,1,none⟩) g1 hne⟩
 have B1:Hid (Below w.heap.size w ((w.alloc (.cells #[(.func (.func 92) #[] #[])] 140)).alloc (.cells #[.int .u64 (y.1:Int),.int .i64 y.2] 135))):=((Below.refl _ w).alloc nlr _).alloc (by simp) _
 simp only [kP] at HE B1 ⊢
 go_enter Tryz.func94,Tryz.ntmps94
 go_wp2
 go_ret
 exact ⟨_,rfl,HE.out,B1.out⟩

theorem ofKp1_any (x : Kp) (y : Nat × Int) {w : World} {kb wb : Nat} (hk : w.cell? ⟨kb, 0, none⟩ = some (.func (.func 104) #[] #[])) (hy : w.cell? ⟨wb, 0, none⟩ = some (.int .u64 (y.1 : Int)) ∧ w.cell? ⟨wb, 1, none⟩ = some (.int .i64 y.2)) :
   Calls Tryz.prog 190 #[.agg (Kp.c x).toArray,.pointer (some ⟨kb,0,none⟩),.pointer (some ⟨wb,0,none⟩)] w fun e w'=>e=.returned (.bool (x.kk==y))∧Below w.heap.size w w':=by
 have CK:=fun W=>keyKp_any x W
 have hkl:=World.block_lt_of_cell? w _ hk
 have hyl:=World.block_lt_of_cell? w _ hy.1
 obtain ⟨y0,y1⟩:=y
 obtain ⟨x0,x1,x2⟩:=x
 simp only [Kp.c,Kp.kk,kP] at CK hy ⊢
 have hq:=eqP x0 y0 x2 y1
 generalize ((x0,x2)==(y0,y1))=bb at *
 have hb0:Below w.heap.size w (w.alloc (.cells #[.int .u64 (x0:Int),.int .u64 (x1:Int),.int .i64 x2] 78)):=(Below.refl _ w).alloc nlr _
 have HS:Hid (∀W,Below (w.alloc (.cells #[.int .u64 (x0:Int),.int .u64 (x1:Int),.int .i64 x2] 78)).heap.size (w.alloc (.cells #[.int .u64 (x0:Int),.int .u64 (x1:Int),.int .i64 x2] 78)) W→W.cell? ⟨kb,0,none⟩=some (.func (.func 104) #[] #[])∧W.cell? ⟨w.heap.size,0,none⟩=some (.int .u64 (x0:Int))∧W.cell? ⟨w.heap.size,1,none⟩=some (.int .u64 (x1:Int))∧W.cell? ⟨w.heap.size,2,none⟩=some (.int .i64 x2)∧W.cell? ⟨wb,0,none⟩=some (.int .u64 (y0:Int))∧W.cell? ⟨wb,1,none⟩=some (.int .i64 y1)):=by
   intro W hW
   have hsz:w.heap.size<(w.alloc (.cells #[.int .u64 (x0:Int),.int .u64 (x1:Int),.int .i64 x2] 78)).heap.size:=by simp
   exact ⟨(hW.cell (p:=⟨kb,0,none⟩) (by simp at hkl ⊢;omega)).trans ((hb0.cell (p:=⟨kb,0,none⟩) hkl).trans hk),(hW.cell (p:=⟨w.heap.size,0,none⟩) hsz).trans (World.cell?_alloc_new _ _ _ _),(hW.cell (p:=⟨w.heap.size,1,none⟩) hsz).trans (World.cell?_alloc_new _ _ _ _),(hW.cell (p:=⟨w.heap.size,2,none⟩) hsz).trans (World.cell?_alloc_new _ _ _ _),(hW.cell (p:=⟨wb,0,none⟩) (by simp at hyl ⊢;omega)).trans ((hb0.cell (p:=⟨wb,0,none⟩) hyl).trans hy.1),(hW.cell (p:=⟨wb,1,none⟩) (by simp at hyl ⊢;omega)).trans ((hb0.cell (p:=⟨wb,1,none⟩) hyl).trans hy.2)⟩
 have B1:Hid (Below w.heap.size w (w.alloc (.cells #[.int .u64 (x0:Int),.int .u64 (x1:Int),.int .i64 x2] 78))):=hb0
 clear hb0 hk hy hkl hyl
 go_enter Tryz.func190,Tryz.ntmps190
 go_wp2
 generalize (w.alloc (.cells #[.int .u64 (x0:Int),.int .u64 (x1:Int),.int .i64 x2] 78))=W1 at *
 obtain ⟨c0,c1,c2,c3,c4,c5⟩:=HS.out _ brf
 go_region_held3 (fun W=>W.cell? ⟨kb,0,none⟩=some (.func (.func 104) #[] #[])∧W.cell? ⟨w.heap.size,0,none⟩=some (.int .u64 (x0:Int))∧W.cell? ⟨w.heap.size,1,none⟩=some (.int .u64 (x1:Int))∧W.cell? ⟨w.heap.size,2,none⟩=some (.int .i64 x2)∧W.cell? ⟨wb,0,none⟩=some (.int .u64 (y0:Int))∧W.cell? ⟨wb,1,none⟩=some (.int .i64 y1))
   (first | go_keep | exact HS.out _ brf | exact HS.out _ brf.drew | exact HS.out _ hX)
   (first | (go_at_call 104;refine (CK _).mono ?_;rintro e u1 ⟨rfl,hX0⟩;(have hX:Below W1.heap.size W1 u1:=(Below.refl _ W1).drew.trans (hX0.mono nlr));(have B2:Hid (Below w.heap.size w u1):=bel_of B1.out hX nlr);clear hX0))
 all_goals
   go_wp2
   go_ret
   exact ⟨rfl,B2.out⟩

theorem ofKp_any (y:Nat × Int) (w:World):Calls Tryz.prog 158 #[(.func (.func 104) #[] #[]),kP y] w fun e w'=>∃caps,e=.returned (.func (.func 190) #[] caps)∧(∀(X:Nat→Prop),(∀g,X g→g<w.heap.size)→∀x:Kp,Say X w' 190 caps #[.agg (Kp.c x).toArray] (x.kk==y))∧Below w.heap.size w w':=by
 have HE:Hid (∀(X:Nat→Prop),(∀g,X g→g<w.heap.size)→∀x:Kp,Say X ((w.alloc (.cells #[(.func (.func 104) #[] #[])] 155)).alloc (.cells #[.int .u64 (y.1:Int),.int .i64 y.2] 135)) 190 #[.pointer (some ⟨w.heap.size,0,none⟩),.pointer (some ⟨w.heap.size+1,0,none⟩)] #[.agg (Kp.c x).toArray] (x.kk==y)):=by
   intro X hX x W hW
   have g0:=World.cell?_alloc_new (w.alloc (.cells #[(.func (.func 104) #[] #[])] 155)) #[.int .u64 (y.1:Int),.int .i64 y.2] 135 0
   have g1:=World.cell?_alloc_new (w.alloc (.cells #[(.func (.func 104) #[] #[])] 155)) #[.int .u64 (y.1:Int),.int .i64 y.2] 135 1
   rw [World.size_alloc] at g0 g1
   have hne:¬X (w.heap.size+1):=fun e=>by have:=hX _ e;omega
   refine ofKp1_any x y (hW.cell (p:=⟨w.heap.size,0,none⟩) ((Bx.new w (.func (.func 104) #[] #[]) 155).alloc _).cell (fun e=>by have:=hX _ e;simp only at this;omega)) ⟨hW.cell (p:=⟨w.heap.size+1,0,none⟩) g0 hne,hW.cell (p:=⟨w.heap.size+1,1,none⟩) g1 hne⟩
 have B1:Hid (Below w.heap.size w ((w.alloc (.cells #[(.func (.func 104) #[] #[])] 155)).alloc (.cells #[.int .u64 (y.1:Int),.int .i64 y.2] 135))):=((Below.refl _ w).alloc nlr _).alloc (by simp) _
 simp only [kP] at HE B1 ⊢
 go_enter Tryz.func158,Tryz.ntmps158
 go_wp2
 go_ret
 exact ⟨_,rfl,HE.out,B1.out⟩

theorem ofLs1_any (x : Ls) (y : Nat × Int) {w : World} {kb wb : Nat} (hk : w.cell? ⟨kb, 0, none⟩ = some (.func (.func 106) #[] #[])) (hy : w.cell? ⟨wb, 0, none⟩ = some (.int .u64 (y.1 : Int)) ∧ w.cell? ⟨wb, 1, none⟩ = some (.int .i64 y.2)) (h6 : ∃ a n c, x.vv = .slice a n c) :
   Calls Tryz.prog 169 #[.agg (Ls.c x).toArray,.pointer (some ⟨kb,0,none⟩),.pointer (some ⟨wb,0,none⟩)] w fun e w'=>e=.returned (.bool (x.kk==y))∧Below w.heap.size w w':=by
 have CK:=fun W=>keyLs_any x W h6
 have hkl:=World.block_lt_of_cell? w _ hk
 have hyl:=World.block_lt_of_cell? w _ hy.1
 obtain ⟨y0,y1⟩:=y
 obtain ⟨sa,sn,sc,h6⟩:=h6
 obtain ⟨x0,x1,x2,x3,x4,x5,x6,_⟩:=x
 simp only at h6
 subst h6
 simp only [Ls.c,Ls.kk,kP] at CK hy ⊢
 have hq:=eqP x0 y0 x2 y1
 generalize ((x0,x2)==(y0,y1))=bb at *
 have hb0:Below w.heap.size w (w.alloc (.cells #[.int .u64 (x0:Int),.int .u64 (x1:Int),.int .i64 x2,.string (S x3),.string (S x4),.int .u64 (x5:Int),.slice sa sn sc] 81)):=(Below.refl _ w).alloc nlr _
 have HS:Hid (∀W,Below (w.alloc (.cells #[.int .u64 (x0:Int),.int .u64 (x1:Int),.int .i64 x2,.string (S x3),.string (S x4),.int .u64 (x5:Int),.slice sa sn sc] 81)).heap.size (w.alloc (.cells #[.int .u64 (x0:Int),.int .u64 (x1:Int),.int .i64 x2,.string (S x3),.string (S x4),.int .u64 (x5:Int),.slice sa sn sc] 81)) W→W.cell? ⟨kb,0,none⟩=some (.func (.func 106) #[] #[])∧W.cell? ⟨w.heap.size,0,none⟩=some (.int .u64 (x0:Int))∧W.cell? ⟨w.heap.size,1,none⟩=some (.int .u64 (x1:Int))∧W.cell? ⟨w.heap.size,2,none⟩=some (.int .i64 x2)∧W.cell? ⟨w.heap.size,3,none⟩=some (.string (S x3))∧W.cell? ⟨w.heap.size,4,none⟩=some (.string (S x4))∧W.cell? ⟨w.heap.size,5,none⟩=some (.int .u64 (x5:Int))∧W.cell? ⟨w.heap.size,6,none⟩=some (.slice sa sn sc)∧W.cell? ⟨wb,0,none⟩=some (.int .u64 (y0:Int))∧W.cell? ⟨wb,1,none⟩=some (.int .i64 y1)):=by
   intro W hW
   have hsz:w.heap.size<(w.alloc (.cells #[.int .u64 (x0:Int),.int .u64 (x1:Int),.int .i64 x2,.string (S x3),.string (S x4),.int .u64 (x5:Int),.slice sa sn sc] 81)).heap.size:=by simp
   exact ⟨(hW.cell (p:=⟨kb,0,none⟩) (by simp at hkl ⊢;omega)).trans ((hb0.cell (p:=⟨kb,0,none⟩) hkl).trans hk),(hW.cell (p:=⟨w.heap.size,0,none⟩) hsz).trans (World.cell?_alloc_new _ _ _ _),(hW.cell (p:=⟨w.heap.size,1,none⟩) hsz).trans (World.cell?_alloc_new _ _ _ _),(hW.cell (p:=⟨w.heap.size,2,none⟩) hsz).trans (World.cell?_alloc_new _ _ _ _),(hW.cell (p:=⟨w.heap.size,3,none⟩) hsz).trans (World.cell?_alloc_new _ _ _ _),(hW.cell (p:=⟨w.heap.size,4,none⟩) hsz).trans (World.cell?_alloc_new _ _ _ _),(hW.cell (p:=⟨w.heap.size,5,none⟩) hsz).trans (World.cell?_alloc_new _ _ _ _),(hW.cell (p:=⟨w.heap.size,6,none⟩) hsz).trans (World.cell?_alloc_new _ _ _ _),(hW.cell (p:=⟨wb,0,none⟩) (by simp at hyl ⊢;omega)).trans ((hb0.cell (p:=⟨wb,0,none⟩) hyl).trans hy.1),(hW.cell (p:=⟨wb,1,none⟩) (by simp at hyl ⊢;omega)).trans ((hb0.cell (p:=⟨wb,1,none⟩) hyl).trans hy.2)⟩
 have B1:Hid (Below w.heap.size w (w.alloc (.cells #[.int .u64 (x0:Int),.int .u64 (x1:Int),.int .i64 x2,.string (S x3),.string (S x4),.int .u64 (x5:Int),.slice sa sn sc] 81))):=hb0
 clear hb0 hk hy hkl hyl
 go_enter Tryz.func169,Tryz.ntmps169
 go_wp2
 generalize (w.alloc (.cells #[.int .u64 (x0:Int),.int .u64 (x1:Int),.int .i64 x2,.string (S x3),.string (S x4),.int .u64 (x5:Int),.slice sa sn sc] 81))=W1 at *
 obtain ⟨c0,c1,c2,c3,c4,c5,c6,c7,c8,c9⟩:=HS.out _ brf
 go_region_held3 (fun W=>W.cell? ⟨kb,0,none⟩=some (.func (.func 106) #[] #[])∧W.cell? ⟨w.heap.size,0,none⟩=some (.int .u64 (x0:Int))∧W.cell? ⟨w.heap.size,1,none⟩=some (.int .u64 (x1:Int))∧W.cell? ⟨w.heap.size,2,none⟩=some (.int .i64 x2)∧W.cell? ⟨w.heap.size,3,none⟩=some (.string (S x3))∧W.cell? ⟨w.heap.size,4,none⟩=some (.string (S x4))∧W.cell? ⟨w.heap.size,5,none⟩=some (.int .u64 (x5:Int))∧W.cell? ⟨w.heap.size,6,none⟩=some (.slice sa sn sc)∧W.cell? ⟨wb,0,none⟩=some (.int .u64 (y0:Int))∧W.cell? ⟨wb,1,none⟩=some (.int .i64 y1))
   (first | go_keep | exact HS.out _ brf | exact HS.out _ brf.drew | exact HS.out _ hX)
   (first | (go_at_call 106;refine (CK _).mono ?_;rintro e u1 ⟨rfl,hX0⟩;(have hX:Below W1.heap.size W1 u1:=(Below.refl _ W1).drew.trans (hX0.mono nlr));(have B2:Hid (Below w.heap.size w u1):=bel_of B1.out hX nlr);clear hX0))
 all_goals
   go_wp2
   go_ret
   exact ⟨rfl,B2.out⟩

theorem ofLs_any (y:Nat × Int) (w:World):Calls Tryz.prog 111 #[(.func (.func 106) #[] #[]),kP y] w fun e w'=>∃caps,e=.returned (.func (.func 169) #[] caps)∧(∀(X:Nat→Prop),(∀g,X g→g<w.heap.size)→∀x:Ls,(∃a n c,x.vv=.slice a n c)→Say X w' 169 caps #[.agg (Ls.c x).toArray] (x.kk==y))∧Below w.heap.size w w':=by
 have HE:Hid (∀(X:Nat→Prop),(∀g,X g→g<w.heap.size)→∀x:Ls,(∃a n c,x.vv=.slice a n c)→Say X ((w.alloc (.cells #[(.func (.func 106) #[] #[])] 157)).alloc (.cells #[.int .u64 (y.1:Int),.int .i64 y.2] 135)) 169 #[.pointer (some ⟨w.heap.size,0,none⟩),.pointer (some ⟨w.heap.size+1,0,none⟩)] #[.agg (Ls.c x).toArray] (x.kk==y)):=by
   intro X hX x h6 W hW
   have g0:=World.cell?_alloc_new (w.alloc (.cells #[(.func (.func 106) #[] #[])] 157)) #[.int .u64 (y.1:Int),.int .i64 y.2] 135 0
   have g1:=World.cell?_alloc_new (w.alloc (.cells #[(.func (.func 106) #[] #[])] 157)) #[.int .u64 (y.1:Int),.int .i64 y.2] 135 1
   rw [World.size_alloc] at g0 g1
   have hne:¬X (w.heap.size+1):=fun e=>by have:=hX _ e;omega
   refine ofLs1_any x y (hW.cell (p:=⟨w.heap.size,0,none⟩) ((Bx.new w (.func (.func 106) #[] #[]) 157).alloc _).cell (fun e=>by have:=hX _ e;simp only at this;omega)) ⟨hW.cell (p:=⟨w.heap.size+1,0,none⟩) g0 hne,hW.cell (p:=⟨w.heap.size+1,1,none⟩) g1 hne⟩ h6
 have B1:Hid (Below w.heap.size w ((w.alloc (.cells #[(.func (.func 106) #[] #[])] 157)).alloc (.cells #[.int .u64 (y.1:Int),.int .i64 y.2] 135))):=((Below.refl _ w).alloc nlr _).alloc (by simp) _
 simp only [kP] at HE B1 ⊢
 go_enter Tryz.func111,Tryz.ntmps111
 go_wp2
 go_ret
 exact ⟨_,rfl,HE.out,B1.out⟩
end Go.Proofs.YtmfempdcpoeicaaGreat.f13
