/-
  Records that are folded now, and those that are folded later, come to the same as all at once; also through a copy. Where what is read is of bounded bulk; the input reads as it did.
-/
import Derived.Test.YtmfempdcpoeicaaGreatGLpq
import Derived.Test.YtmfempdcpoeicaaGreatGArb
import Derived.Deep.CutRange
set_option maxHeartbeats 16000000
set_option maxRecDepth 100000
namespace Go.Proofs.YtmfempdcpoeicaaGreat.foldSplits
open Go.Proofs.YtmfempdcpoeicaaGreat.f13
open Go.ChangeShapes Go.WideShapes Go.ChangeAt Go.WideMaps Go.WideElems Go.RowKit Go.Shelf Go.Sort
open Go.Lib hiding intOf

theorem set12_row2 {w:World} {g:Nat} {z0 z1 z2 z3 z4 z5 z6 z7 z8 z9 z10 z11:Value} {t:TypeId} {fr:Nat × Nat} (hg:w.heap[g]?=some (.cells #[z0,z1,z2,z3,z4,z5,z6,z7,z8,z9,z10,z11] t fr)) {c0 c1 c2 c3 c4 c5 c6 c7 c8 c9 c10 c11:Value}:set12 w g c0 c1 c2 c3 c4 c5 c6 c7 c8 c9 c10 c11=w.setRow g #[c0,c1,c2,c3,c4,c5,c6,c7,c8,c9,c10,c11]:=by
 unfold set12
 rw [setCell_eq_setRow w g 0 _ t fr c0 hg]
 simp only [row_set hg]
 simp
theorem walk {w : World} {v : Value} {s : St} {l : List Rc} {n : Int} (hs : Sv w s) (hkr : Kr s) (hsn : Sn l.length s) (hl : Rr 13 Rc.cs w v l) (hr : ∀ x ∈ l, Rr 4 Vr.c w x.vv x.v ∧ x.ok) (hv : ∀ x ∈ l, x.v.length * 48 ≤ 211106232528000) (hn : l.length ≤ 4611686018427387904) :
   Calls Tryz.prog 3 #[.agg s.c.toArray,v,.int .i64 n] w fun e w'=>e=.returned (.bool true)∧Below w.heap.size w w':=by
 have HL:Hid (Rr 13 Rc.cs w v l):=hl
 have HR:Hid (∀x∈l,Rr 4 Vr.c w x.vv x.v∧x.ok):=hr
 have HV:Hid (∀x∈l,x.v.length*48≤211106232528000):=hv
 have HZ:Hid (Sn l.length s.e):=hsn.to_e
 have HK:Hid (Kr s.e):=hkr.e
 have HS:Hid (Sv w s):=hs
 obtain ⟨a,cap,hva,-⟩:=id hl
 rw [hva]
 have HVA:Hid (v=.slice a l.length cap):=hva
 have CC:Hid (∀W,Below w.heap.size w W→Calls Tryz.prog 6 #[.agg s.c.toArray] W fun e w'=>∃s':St,e=.returned (.agg s'.c.toArray)∧Own W.heap.size w' s'.rows∧s'.e=s.e∧Below W.heap.size W w'):=fun W hW=>Clone_any (hs.up hW) hsn.sz
 obtain ⟨⟨saD,snD,scD,shD⟩,⟨saI,snI,scI,shI⟩,⟨saT,snT,scT,shT⟩,⟨saJ,snJ,scJ,shJ⟩,⟨saM,snM,scM,shM⟩,⟨saS,snS,scS,shS⟩,⟨saK,snK,scK,shK⟩,⟨saL,snL,scL,shL⟩,⟨saG,snG,scG,shG⟩⟩:=St.cut hs
 clear hl hr hv hva hsn hkr hs
 obtain ⟨sp,sd,sm,svD,slD,svI,slI,svT,slT,svJ,slJ,svM,slM,svS,slS,svK,slK,svL,slL,svG,slG⟩:=s
 simp only at shD shI shT shJ shM shS shK shL shG
 subst shD shI shT shJ shM shS shK shL shG
 simp only [St.c] at CC ⊢
 obtain ⟨bs,hbs⟩:∃bs,(⟨sp,sd,sm,.slice saD snD scD,slD,.slice saI snI scI,slI,.slice saT snT scT,slT,.slice saJ snJ scJ,slJ,.slice saM snM scM,slM,.slice saS snS scS,slS,.slice saK snK scK,slK,.slice saL snL scL,slL,.slice saG snG scG,slG⟩:St).e=bs:=⟨_,rfl⟩
 have HBS:Hid ((⟨sp,sd,sm,.slice saD snD scD,slD,.slice saI snI scI,slI,.slice saT snT scT,slT,.slice saJ snJ scJ,slJ,.slice saM snM scM,slM,.slice saS snS scS,slS,.slice saK snK scK,slK,.slice saL snL scL,slL,.slice saG snG scG,slG⟩:St).e=bs):=hbs
 rw [hbs] at HZ HK CC
 clear hbs
 have hb0:Below w.heap.size w (w.alloc (.cells #[.int .u64 (sp:Int),.int .u64 (sd:Int),.int .u64 (sm:Int),.slice saD snD scD,.slice saI snI scI,.slice saT snT scT,.slice saJ snJ scJ,.slice saM snM scM,.slice saS snS scS,.slice saK snK scK,.slice saL snL scL,.slice saG snG scG] 33)):=(Below.refl _ w).alloc nlr _
 have HB0:Hid (Below w.heap.size w (w.alloc (.cells #[.int .u64 (sp:Int),.int .u64 (sd:Int),.int .u64 (sm:Int),.slice saD snD scD,.slice saI snI scI,.slice saT snT scT,.slice saJ snJ scJ,.slice saM snM scM,.slice saS snS scS,.slice saK snK scK,.slice saL snL scL,.slice saG snG scG] 33))∧Bc (w.alloc (.cells #[.int .u64 (sp:Int),.int .u64 (sd:Int),.int .u64 (sm:Int),.slice saD snD scD,.slice saI snI scI,.slice saT snT scT,.slice saJ snJ scJ,.slice saM snM scM,.slice saS snS scS,.slice saK snK scK,.slice saL snL scL,.slice saG snG scG] 33)) w.heap.size ⟨sp,sd,sm,.slice saD snD scD,slD,.slice saI snI scI,slI,.slice saT snT scT,slT,.slice saJ snJ scJ,slJ,.slice saM snM scM,slM,.slice saS snS scS,slS,.slice saK snK scK,slK,.slice saL snL scL,slL,.slice saG snG scG,slG⟩):=⟨hb0,Bc.new w ⟨sp,sd,sm,.slice saD snD scD,slD,.slice saI snI scI,slI,.slice saT snT scT,slT,.slice saJ snJ scJ,slJ,.slice saM snM scM,slM,.slice saS snS scS,slS,.slice saK snK scK,slK,.slice saL snL scL,slL,.slice saG snG scG,slG⟩⟩
 clear hb0
 go_enter Tryz.func3,Tryz.ntmps3
 go_upto_region 5 with (go_at_call 4;refine (shown_any _).mono ?_;rintro e w1 ⟨rfl,b1⟩;(have B1:Hid (Below w.heap.size w w1∧Bc w1 w.heap.size ⟨sp,sd,sm,.slice saD snD scD,slD,.slice saI snI scI,slI,.slice saT snT scT,slT,.slice saJ snJ scJ,slJ,.slice saM snM scM,slM,.slice saS snS scS,slS,.slice saK snK scK,slK,.slice saL snL scL,slL,.slice saG snG scG,slG⟩):=⟨bel_of HB0.out.1 b1 nlr,HB0.out.2.up b1⟩);clear b1 HB0;obtain ⟨hxx,-⟩:=Bc.cells B1.out.2;(have x0:=hxx 0 _ rfl);(have x1:=hxx 1 _ rfl);(have x2:=hxx 2 _ rfl);(have x3:=hxx 3 _ rfl);(have x4:=hxx 4 _ rfl);(have x5:=hxx 5 _ rfl);(have x6:=hxx 6 _ rfl);(have x7:=hxx 7 _ rfl);(have x8:=hxx 8 _ rfl);(have x9:=hxx 9 _ rfl);(have x10:=hxx 10 _ rfl);(have x11:=hxx 11 _ rfl);clear hxx;skip)
 clear x0 x1 x2 x3 x4 x5 x6 x7 x8 x9 x10 x11
 have h6:Below w1.heap.size w1 (w1.alloc (.cells #[.int .u64 (sp:Int),.int .u64 (sd:Int),.int .u64 (sm:Int),.slice saD snD scD,.slice saI snI scI,.slice saT snT scT,.slice saJ snJ scJ,.slice saM snM scM,.slice saS snS scS,.slice saK snK scK,.slice saL snL scL,.slice saG snG scG] 33)):=(Below.refl _ w1).alloc nlr _
 have HP0:Hid (∃t,Lp w (w1.alloc (.cells #[.int .u64 (sp:Int),.int .u64 (sd:Int),.int .u64 (sm:Int),.slice saD snD scD,.slice saI snI scI,.slice saT snT scT,.slice saJ snJ scJ,.slice saM snM scM,.slice saS snS scS,.slice saK snK scK,.slice saL snL scL,.slice saG snG scG] 33)) w1.heap.size v l bs 1 0 (w1.alloc (.cells #[.int .u64 (sp:Int),.int .u64 (sd:Int),.int .u64 (sm:Int),.slice saD snD scD,.slice saI snI scI,.slice saT snT scT,.slice saJ snJ scJ,.slice saM snM scM,.slice saS snS scS,.slice saK snK scK,.slice saL snL scL,.slice saG snG scG] 33)) t):=⟨⟨sp,sd,sm,.slice saD snD scD,slD,.slice saI snI scI,slI,.slice saT snT scT,slT,.slice saJ snJ scJ,slJ,.slice saM snM scM,slM,.slice saS snS scS,slS,.slice saK snK scK,slK,.slice saL snL scL,slL,.slice saG snG scG,slG⟩,Bc.new w1 ⟨sp,sd,sm,.slice saD snD scD,slD,.slice saI snI scI,slI,.slice saT snT scT,slT,.slice saJ snJ scJ,slJ,.slice saM snM scM,slM,.slice saS snS scS,slS,.slice saK snK scK,slK,.slice saL snL scL,slL,.slice saG snG scG,slG⟩,HS.out.up (bel_of B1.out.1 h6 nlr),HBS.out,Ch.refl _ _,bel_of B1.out.1 h6 nlr⟩
 have H1:Hid (Below w1.heap.size w1 (w1.alloc (.cells #[.int .u64 (sp:Int),.int .u64 (sd:Int),.int .u64 (sm:Int),.slice saD snD scD,.slice saI snI scI,.slice saT snT scT,.slice saJ snJ scJ,.slice saM snM scM,.slice saS snS scS,.slice saK snK scK,.slice saL snL scL,.slice saG snG scG] 33))):=h6
 have hsb1:w.heap.size≤w1.heap.size:=B1.out.1.size
 clear h6 HS HBS
 generalize (w1.alloc (.cells #[.int .u64 (sp:Int),.int .u64 (sd:Int),.int .u64 (sm:Int),.slice saD snD scD,.slice saI snI scI,.slice saT snT scT,.slice saJ snJ scJ,.slice saM snM scM,.slice saS snS scS,.slice saK snK scK,.slice saL snL scL,.slice saG snG scG] 33))=W1 at *
 go_cut [9] from 10 (fun v9 wx=>v9=.int .i64 0∧W1=wx)
 case first =>
   go_wp2
   go_meet
   case rel=>exact ⟨rfl,rfl⟩
 obtain ⟨rfl,hwc⟩:=hcut
 subst hwc
 go_wp2
 generalize (Value.agg #[.int .u64 (sp:Int),.int .u64 (sd:Int),.int .u64 (sm:Int),.slice saD snD scD,.slice saI snI scI,.slice saT snT scT,.slice saJ snJ scJ,.slice saM snM scM,.slice saS snS scS,.slice saK snK scK,.slice saL snL scL,.slice saG snG scG])=vs0
 go_loopw [9] (fun v9 wr=>∃i:Nat,v9=.int .i64 (i:Int)∧i≤l.length∧Hid (∃t,Lp w W1 w1.heap.size v l bs 1 i wr t)) (fun v9 _=>l.length-(intOf v9).toNat)
 case atStart=>exact ⟨0,rfl,Nat.zero_le _,HP0.out⟩
 case round =>
   obtain ⟨i,rfl,hi,HW⟩:=hrel
   by_cases hil:i<l.length
   · have hil':(i:Int)<(l.length:Int):=by omega
     have hi0:(0:Int)≤(i:Int):=by omega
     have hcv:IntKind.u64.wrap (i:Int)=(i:Int):=by rw [IntKind.wrap_u64];omega
     have hcv2:IntKind.u64.wrap ((i:Int)+1)=(i:Int)+1:=by rw [IntKind.wrap_u64];omega
     obtain ⟨t,hL⟩:=HW.out
     have CA:Hid (∀W,Below wr.heap.size wr W→Calls Tryz.prog 5 #[.agg t.c.toArray,.int .u64 ((i:Int)+1),.agg l[i].cs.toArray] W (Apd W (fl bs 1 l (i+1)))):=fun W hW=>hL.call hil HZ.out HK.out HR.out HV.out W hW
     obtain ⟨b,off,cap',hv,hb,hc⟩:=rc_cells HL.out hil
     obtain ⟨rfl,rfl⟩:a=some ⟨b,off,none⟩∧cap=cap':=by rw [HVA.out] at hv;injection hv with e1 _ e2;exact ⟨e1,e2⟩
     obtain ⟨ra,rp,hra,-⟩:=(HR.out _ (List.getElem_mem hil)).1
     have hc0:=hc wr hL.bel
     have hrc:l[i].cs=[.int .i64 l[i].cl,.int .i64 l[i].kd,.int .u64 (l[i].fr:Int),.int .i64 l[i].tm,.int .u64 (l[i].k1:Int),.int .u64 (l[i].k2:Int),.int .u64 (l[i].k3:Int),.int .i64 l[i].n,.int .i64 l[i].m,.string (S l[i].a),.string (S l[i].b),.string (S l[i].c),.slice ra l[i].v.length rp]:=by unfold Rc.cs;rw [hra]
     rw [hra] at hc0
     rw [hrc] at CA
     obtain ⟨c0,c1,c2,c3,c4,c5,c6,c7,c8,c9,c10,c11,c12⟩:=hc0
     clear hv hc hra hrc
     generalize l[i].cl=r0 at *
     generalize l[i].kd=r1 at *
     generalize l[i].fr=r2 at *
     generalize l[i].tm=r3 at *
     generalize l[i].k1=r4 at *
     generalize l[i].k2=r5 at *
     generalize l[i].k3=r6 at *
     generalize l[i].n=r7 at *
     generalize l[i].m=r8 at *
     generalize l[i].a=r9 at *
     generalize l[i].b=r10 at *
     generalize l[i].c=r11 at *
     generalize l[i].v.length=rn at *
     simp only [Nat.add_zero] at c0
     obtain ⟨⟨taD,tnD,tcD,thD⟩,⟨taI,tnI,tcI,thI⟩,⟨taT,tnT,tcT,thT⟩,⟨taJ,tnJ,tcJ,thJ⟩,⟨taM,tnM,tcM,thM⟩,⟨taS,tnS,tcS,thS⟩,⟨taK,tnK,tcK,thK⟩,⟨taL,tnL,tcL,thL⟩,⟨taG,tnG,tcG,thG⟩⟩:=St.cut hL.sv
     obtain ⟨hx,hy⟩:=hL.box.cells
     have HL1:Hid (Lp w W1 w1.heap.size v l bs 1 i wr t):=hL
     have hsb:w1.heap.size<wr.heap.size:=hL.box.lt
     clear hL HW
     obtain ⟨tp,td,tm,tvD,tlD,tvI,tlI,tvT,tlT,tvJ,tlJ,tvM,tlM,tvS,tlS,tvK,tlK,tvL,tlL,tvG,tlG⟩:=t
     simp only at thD thI thT thJ thM thS thK thL thG
     subst thD thI thT thJ thM thS thK thL thG
     simp only [St.c] at CA hx
     have x0:=hx 0 _ rfl
     have x1:=hx 1 _ rfl
     have x2:=hx 2 _ rfl
     have x3:=hx 3 _ rfl
     have x4:=hx 4 _ rfl
     have x5:=hx 5 _ rfl
     have x6:=hx 6 _ rfl
     have x7:=hx 7 _ rfl
     have x8:=hx 8 _ rfl
     have x9:=hx 9 _ rfl
     have x10:=hx 10 _ rfl
     have x11:=hx 11 _ rfl
     clear hx hy H1 B1 HP0
     go_wp2
     go_region_with (go_at_call 5;refine (CA.out _ (by first | exact brf | exact brf.drew)).mono ?_;rintro e w2 ⟨t2,rfl,hO,he,hb2⟩;(have HX:Hid (Own wr.heap.size w2 t2.rows∧t2.e=fl bs 1 l (i+1)∧Below wr.heap.size wr w2):=⟨hO,he,⟨hb2.os,hb2.tape,hb2.output,hb2.size,hb2.block⟩⟩);obtain ⟨⟨uaD,unD,ucD,uhD⟩,⟨uaI,unI,ucI,uhI⟩,⟨uaT,unT,ucT,uhT⟩,⟨uaJ,unJ,ucJ,uhJ⟩,⟨uaM,unM,ucM,uhM⟩,⟨uaS,unS,ucS,uhS⟩,⟨uaK,unK,ucK,uhK⟩,⟨uaL,unL,ucL,uhL⟩,⟨uaG,unG,ucG,uhG⟩⟩:=St.slices hO;obtain ⟨hx2,hy2⟩:=(HL1.out.box.up HX.out.2.2).cells;obtain ⟨up,ud,um,uvD,ulD,uvI,ulI,uvT,ulT,uvJ,ulJ,uvM,ulM,uvS,ulS,uvK,ulK,uvL,ulL,uvG,ulG⟩:=t2;simp only at uhD uhI uhT uhJ uhM uhS uhK uhL uhG;subst uhD uhI uhT uhJ uhM uhS uhK uhL uhG;simp only [St.c] at hx2 ⊢;(have z0:=hx2 0 _ rfl);(have g0:=hy2 0);(have z1:=hx2 1 _ rfl);(have g1:=hy2 1);(have z2:=hx2 2 _ rfl);(have g2:=hy2 2);(have z3:=hx2 3 _ rfl);(have g3:=hy2 3);(have z4:=hx2 4 _ rfl);(have g4:=hy2 4);(have z5:=hx2 5 _ rfl);(have g5:=hy2 5);(have z6:=hx2 6 _ rfl);(have g6:=hy2 6);(have z7:=hx2 7 _ rfl);(have g7:=hy2 7);(have z8:=hx2 8 _ rfl);(have g8:=hy2 8);(have z9:=hx2 9 _ rfl);(have g9:=hy2 9);(have z10:=hx2 10 _ rfl);(have g10:=hy2 10);(have z11:=hx2 11 _ rfl);(have g11:=hy2 11);clear hO he hb2 hx2 hy2 CA x0 x1 x2 x3 x4 x5 x6 x7 x8 x9 x10 x11)
     all_goals
       have HL3:Hid (Lp w W1 w1.heap.size v l bs 1 (i+1) ((((((((((((w2.setCell ⟨w1.heap.size,0,none⟩ (.int .u64 (up:Int))).setCell ⟨w1.heap.size,1,none⟩ (.int .u64 (ud:Int))).setCell ⟨w1.heap.size,2,none⟩ (.int .u64 (um:Int))).setCell ⟨w1.heap.size,3,none⟩ (.slice uaD unD ucD)).setCell ⟨w1.heap.size,4,none⟩ (.slice uaI unI ucI)).setCell ⟨w1.heap.size,5,none⟩ (.slice uaT unT ucT)).setCell ⟨w1.heap.size,6,none⟩ (.slice uaJ unJ ucJ)).setCell ⟨w1.heap.size,7,none⟩ (.slice uaM unM ucM)).setCell ⟨w1.heap.size,8,none⟩ (.slice uaS unS ucS)).setCell ⟨w1.heap.size,9,none⟩ (.slice uaK unK ucK)).setCell ⟨w1.heap.size,10,none⟩ (.slice uaL unL ucL)).setCell ⟨w1.heap.size,11,none⟩ (.slice uaG unG ucG)) ⟨up,ud,um,.slice uaD unD ucD,ulD,.slice uaI unI ucI,ulI,.slice uaT unT ucT,ulT,.slice uaJ unJ ucJ,ulJ,.slice uaM unM ucM,ulM,.slice uaS unS ucS,ulS,.slice uaK unK ucK,ulK,.slice uaL unL ucL,ulL,.slice uaG unG ucG,ulG⟩):=by
         have h:=HL1.out.next hsb1 HX.out.1 HX.out.2.1 HX.out.2.2
         unfold set12 at h
         exact h
       clear z0 g0 z1 g1 z2 g2 z3 g3 z4 g4 z5 g5 z6 g6 z7 g7 z8 g8 z9 g9 z10 g10 z11 g11 c0 c1 c2 c3 c4 c5 c6 c7 c8 c9 c10 c11 c12 HL1 HX
       generalize ((((((((((((w2.setCell ⟨w1.heap.size,0,none⟩ (.int .u64 (up:Int))).setCell ⟨w1.heap.size,1,none⟩ (.int .u64 (ud:Int))).setCell ⟨w1.heap.size,2,none⟩ (.int .u64 (um:Int))).setCell ⟨w1.heap.size,3,none⟩ (.slice uaD unD ucD)).setCell ⟨w1.heap.size,4,none⟩ (.slice uaI unI ucI)).setCell ⟨w1.heap.size,5,none⟩ (.slice uaT unT ucT)).setCell ⟨w1.heap.size,6,none⟩ (.slice uaJ unJ ucJ)).setCell ⟨w1.heap.size,7,none⟩ (.slice uaM unM ucM)).setCell ⟨w1.heap.size,8,none⟩ (.slice uaS unS ucS)).setCell ⟨w1.heap.size,9,none⟩ (.slice uaK unK ucK)).setCell ⟨w1.heap.size,10,none⟩ (.slice uaL unL ucL)).setCell ⟨w1.heap.size,11,none⟩ (.slice uaG unG ucG))=W3 at *
       go_wp2
       go_roundw
       case rel=>exact ⟨i+1,by simp,by omega,⟨_,HL3.out⟩⟩
       case measure=>simp [intOf];omega
   · have hil':¬(i:Int)<(l.length:Int):=by omega
     obtain ⟨t1,hL⟩:=HW.out
     have ho:=hL.old (w5:=w1) rfl H1.out
     have hi2:i=l.length:=by omega
     have h1:=hL.is
     rw [hi2] at h1
     obtain ⟨⟨qaD,qnD,qcD,qhD⟩,⟨qaI,qnI,qcI,qhI⟩,⟨qaT,qnT,qcT,qhT⟩,⟨qaJ,qnJ,qcJ,qhJ⟩,⟨qaM,qnM,qcM,qhM⟩,⟨qaS,qnS,qcS,qhS⟩,⟨qaK,qnK,qcK,qhK⟩,⟨qaL,qnL,qcL,qhL⟩,⟨qaG,qnG,qcG,qhG⟩⟩:=St.cut hL.sv
     have A1:Hid (Below w.heap.size w wr∧Bc wr w.heap.size ⟨sp,sd,sm,.slice saD snD scD,slD,.slice saI snI scI,slI,.slice saT snT scT,slT,.slice saJ snJ scJ,slJ,.slice saM snM scM,slM,.slice saS snS scS,slS,.slice saK snK scK,slK,.slice saL snL scL,slL,.slice saG snG scG,slG⟩∧Bc wr w1.heap.size t1∧Sv wr t1∧t1.e=fl bs 1 l l.length):=⟨hL.bel,B1.out.2.up ho,hL.box,hL.sv,h1⟩
     clear ho hi2 h1 hL HW HP0 H1 B1 hil hi
     obtain ⟨qp,qd,qm,qvD,qlD,qvI,qlI,qvT,qlT,qvJ,qlJ,qvM,qlM,qvS,qlS,qvK,qlK,qvL,qlL,qvG,qlG⟩:=t1
     simp only at qhD qhI qhT qhJ qhM qhS qhK qhL qhG
     subst qhD qhI qhT qhJ qhM qhS qhK qhL qhG
     obtain ⟨hxx,-⟩:=Bc.cells A1.out.2.1
     simp only [St.c] at hxx
     have x0:=hxx 0 _ rfl
     have x1:=hxx 1 _ rfl
     have x2:=hxx 2 _ rfl
     have x3:=hxx 3 _ rfl
     have x4:=hxx 4 _ rfl
     have x5:=hxx 5 _ rfl
     have x6:=hxx 6 _ rfl
     have x7:=hxx 7 _ rfl
     have x8:=hxx 8 _ rfl
     have x9:=hxx 9 _ rfl
     have x10:=hxx 10 _ rfl
     have x11:=hxx 11 _ rfl
     clear hxx
     generalize wr=wa at *
     go_upto_region 10 with (go_at_call 6;refine (CC.out _ A1.out.1).mono ?_;rintro e wk ⟨k,rfl,hO,he,b2⟩;obtain ⟨⟨kaD,knD,kcD,khD⟩,⟨kaI,knI,kcI,khI⟩,⟨kaT,knT,kcT,khT⟩,⟨kaJ,knJ,kcJ,khJ⟩,⟨kaM,knM,kcM,khM⟩,⟨kaS,knS,kcS,khS⟩,⟨kaK,knK,kcK,khK⟩,⟨kaL,knL,kcL,khL⟩,⟨kaG,knG,kcG,khG⟩⟩:=St.slices hO;obtain ⟨kp,kd,km,kvD,klD,kvI,klI,kvT,klT,kvJ,klJ,kvM,klM,kvS,klS,kvK,klK,kvL,klL,kvG,klG⟩:=k;simp only at khD khI khT khJ khM khS khK khL khG;subst khD khI khT khJ khM khS khK khL khG;simp only;(have A2:Hid (Bc wk w1.heap.size ⟨qp,qd,qm,.slice qaD qnD qcD,qlD,.slice qaI qnI qcI,qlI,.slice qaT qnT qcT,qlT,.slice qaJ qnJ qcJ,qlJ,.slice qaM qnM qcM,qlM,.slice qaS qnS qcS,qlS,.slice qaK qnK qcK,qlK,.slice qaL qnL qcL,qlL,.slice qaG qnG qcG,qlG⟩∧Sv wk ⟨qp,qd,qm,.slice qaD qnD qcD,qlD,.slice qaI qnI qcI,qlI,.slice qaT qnT qcT,qlT,.slice qaJ qnJ qcJ,qlJ,.slice qaM qnM qcM,qlM,.slice qaS qnS qcS,qlS,.slice qaK qnK qcK,qlK,.slice qaL qnL qcL,qlL,.slice qaG qnG qcG,qlG⟩∧(⟨qp,qd,qm,.slice qaD qnD qcD,qlD,.slice qaI qnI qcI,qlI,.slice qaT qnT qcT,qlT,.slice qaJ qnJ qcJ,qlJ,.slice qaM qnM qcM,qlM,.slice qaS qnS qcS,qlS,.slice qaK qnK qcK,qlK,.slice qaL qnL qcL,qlL,.slice qaG qnG qcG,qlG⟩:St).e=fl bs 1 l l.length):=⟨A1.out.2.2.1.up b2,A1.out.2.2.2.1.up b2,A1.out.2.2.2.2⟩);(have A5:Hid (Below w.heap.size w wk∧Sv wk ⟨kp,kd,km,.slice kaD knD kcD,klD,.slice kaI knI kcI,klI,.slice kaT knT kcT,klT,.slice kaJ knJ kcJ,klJ,.slice kaM knM kcM,klM,.slice kaS knS kcS,klS,.slice kaK knK kcK,klK,.slice kaL knL kcL,klL,.slice kaG knG kcG,klG⟩∧(⟨kp,kd,km,.slice kaD knD kcD,klD,.slice kaI knI kcI,klI,.slice kaT knT kcT,klT,.slice kaJ knJ kcJ,klJ,.slice kaM knM kcM,klM,.slice kaS knS kcS,klS,.slice kaK knK kcK,klK,.slice kaL knL kcL,klL,.slice kaG knG kcG,klG⟩:St).e=bs):=⟨bel_of A1.out.1 b2 nlr,Own.sv hO,he⟩);clear hO he b2 CC A1 x0 x1 x2 x3 x4 x5 x6 x7 x8 x9 x10 x11)
     have h6:Below wk.heap.size wk (wk.alloc (.cells #[.int .u64 (kp:Int),.int .u64 (kd:Int),.int .u64 (km:Int),.slice kaD knD kcD,.slice kaI knI kcI,.slice kaT knT kcT,.slice kaJ knJ kcJ,.slice kaM knM kcM,.slice kaS knS kcS,.slice kaK knK kcK,.slice kaL knL kcL,.slice kaG knG kcG] 33)):=(Below.refl _ wk).alloc nlr _
     have HP1:Hid (∃t,Lp w (wk.alloc (.cells #[.int .u64 (kp:Int),.int .u64 (kd:Int),.int .u64 (km:Int),.slice kaD knD kcD,.slice kaI knI kcI,.slice kaT knT kcT,.slice kaJ knJ kcJ,.slice kaM knM kcM,.slice kaS knS kcS,.slice kaK knK kcK,.slice kaL knL kcL,.slice kaG knG kcG] 33)) wk.heap.size v l bs 1 0 (wk.alloc (.cells #[.int .u64 (kp:Int),.int .u64 (kd:Int),.int .u64 (km:Int),.slice kaD knD kcD,.slice kaI knI kcI,.slice kaT knT kcT,.slice kaJ knJ kcJ,.slice kaM knM kcM,.slice kaS knS kcS,.slice kaK knK kcK,.slice kaL knL kcL,.slice kaG knG kcG] 33)) t):=⟨⟨kp,kd,km,.slice kaD knD kcD,klD,.slice kaI knI kcI,klI,.slice kaT knT kcT,klT,.slice kaJ knJ kcJ,klJ,.slice kaM knM kcM,klM,.slice kaS knS kcS,klS,.slice kaK knK kcK,klK,.slice kaL knL kcL,klL,.slice kaG knG kcG,klG⟩,Bc.new wk ⟨kp,kd,km,.slice kaD knD kcD,klD,.slice kaI knI kcI,klI,.slice kaT knT kcT,klT,.slice kaJ knJ kcJ,klJ,.slice kaM knM kcM,klM,.slice kaS knS kcS,klS,.slice kaK knK kcK,klK,.slice kaL knL kcL,klL,.slice kaG knG kcG,klG⟩,A5.out.2.1.up h6,A5.out.2.2,Ch.refl _ _,bel_of A5.out.1 h6 nlr⟩
     have A3:Hid (Below wk.heap.size wk (wk.alloc (.cells #[.int .u64 (kp:Int),.int .u64 (kd:Int),.int .u64 (km:Int),.slice kaD knD kcD,.slice kaI knI kcI,.slice kaT knT kcT,.slice kaJ knJ kcJ,.slice kaM knM kcM,.slice kaS knS kcS,.slice kaK knK kcK,.slice kaL knL kcL,.slice kaG knG kcG] 33))):=h6
     have hsb1:w.heap.size≤wk.heap.size:=A5.out.1.size
     clear h6 A5
     generalize (wk.alloc (.cells #[.int .u64 (kp:Int),.int .u64 (kd:Int),.int .u64 (km:Int),.slice kaD knD kcD,.slice kaI knI kcI,.slice kaT knT kcT,.slice kaJ knJ kcJ,.slice kaM knM kcM,.slice kaS knS kcS,.slice kaK knK kcK,.slice kaL knL kcL,.slice kaG knG kcG] 33))=W1b at *
     go_cut [11] from 12 (fun v9 wx=>v9=.int .i64 0∧W1b=wx)
     case first =>
       go_wp2
       go_meet
       case rel=>exact ⟨rfl,rfl⟩
     obtain ⟨rfl,hwc⟩:=hcut
     subst hwc
     go_wp2
     go_loopw [11] (fun v11 wr=>∃i:Nat,v11=.int .i64 (i:Int)∧i≤l.length∧((i:Int)≤n∨i=0)∧Hid (∃t,Lp w W1b wk.heap.size v l bs 1 i wr t)) (fun v11 _=>l.length-(intOf v11).toNat)
     case atStart=>exact ⟨0,rfl,Nat.zero_le _,.inr rfl,HP1.out⟩
     case round =>
       obtain ⟨i,rfl,hi,hin,HW⟩:=hrel
       by_cases hil:i<l.length
       · have hil':(i:Int)<(l.length:Int):=by omega
         by_cases hat:(i:Int)<n
         · skip
           have hi0:(0:Int)≤(i:Int):=by omega
           have hcv:IntKind.u64.wrap (i:Int)=(i:Int):=by rw [IntKind.wrap_u64];omega
           have hcv2:IntKind.u64.wrap ((i:Int)+1)=(i:Int)+1:=by rw [IntKind.wrap_u64];omega
           obtain ⟨t,hL⟩:=HW.out
           have CA:Hid (∀W,Below wr.heap.size wr W→Calls Tryz.prog 5 #[.agg t.c.toArray,.int .u64 ((i:Int)+1),.agg l[i].cs.toArray] W (Apd W (fl bs 1 l (i+1)))):=fun W hW=>hL.call hil HZ.out HK.out HR.out HV.out W hW
           obtain ⟨b,off,cap',hv,hb,hc⟩:=rc_cells HL.out hil
           obtain ⟨rfl,rfl⟩:a=some ⟨b,off,none⟩∧cap=cap':=by rw [HVA.out] at hv;injection hv with e1 _ e2;exact ⟨e1,e2⟩
           obtain ⟨ra,rp,hra,-⟩:=(HR.out _ (List.getElem_mem hil)).1
           have hc0:=hc wr hL.bel
           have hrc:l[i].cs=[.int .i64 l[i].cl,.int .i64 l[i].kd,.int .u64 (l[i].fr:Int),.int .i64 l[i].tm,.int .u64 (l[i].k1:Int),.int .u64 (l[i].k2:Int),.int .u64 (l[i].k3:Int),.int .i64 l[i].n,.int .i64 l[i].m,.string (S l[i].a),.string (S l[i].b),.string (S l[i].c),.slice ra l[i].v.length rp]:=by unfold Rc.cs;rw [hra]
           rw [hra] at hc0
           rw [hrc] at CA
           obtain ⟨c0,c1,c2,c3,c4,c5,c6,c7,c8,c9,c10,c11,c12⟩:=hc0
           clear hv hc hra hrc
           generalize l[i].cl=r0 at *
           generalize l[i].kd=r1 at *
           generalize l[i].fr=r2 at *
           generalize l[i].tm=r3 at *
           generalize l[i].k1=r4 at *
           generalize l[i].k2=r5 at *
           generalize l[i].k3=r6 at *
           generalize l[i].n=r7 at *
           generalize l[i].m=r8 at *
           generalize l[i].a=r9 at *
           generalize l[i].b=r10 at *
           generalize l[i].c=r11 at *
           generalize l[i].v.length=rn at *
           simp only [Nat.add_zero] at c0
           obtain ⟨⟨taD,tnD,tcD,thD⟩,⟨taI,tnI,tcI,thI⟩,⟨taT,tnT,tcT,thT⟩,⟨taJ,tnJ,tcJ,thJ⟩,⟨taM,tnM,tcM,thM⟩,⟨taS,tnS,tcS,thS⟩,⟨taK,tnK,tcK,thK⟩,⟨taL,tnL,tcL,thL⟩,⟨taG,tnG,tcG,thG⟩⟩:=St.cut hL.sv
           obtain ⟨hx,hy⟩:=hL.box.cells
           have HL1:Hid (Lp w W1b wk.heap.size v l bs 1 i wr t):=hL
           have hsb:wk.heap.size<wr.heap.size:=hL.box.lt
           clear hL HW
           obtain ⟨tp,td,tm,tvD,tlD,tvI,tlI,tvT,tlT,tvJ,tlJ,tvM,tlM,tvS,tlS,tvK,tlK,tvL,tlL,tvG,tlG⟩:=t
           simp only at thD thI thT thJ thM thS thK thL thG
           subst thD thI thT thJ thM thS thK thL thG
           simp only [St.c] at CA hx
           have x0:=hx 0 _ rfl
           have x1:=hx 1 _ rfl
           have x2:=hx 2 _ rfl
           have x3:=hx 3 _ rfl
           have x4:=hx 4 _ rfl
           have x5:=hx 5 _ rfl
           have x6:=hx 6 _ rfl
           have x7:=hx 7 _ rfl
           have x8:=hx 8 _ rfl
           have x9:=hx 9 _ rfl
           have x10:=hx 10 _ rfl
           have x11:=hx 11 _ rfl
           clear hx hy A3 A2 HP1
           go_wp2
           go_region_with (go_at_call 5;refine (CA.out _ (by first | exact brf | exact brf.drew)).mono ?_;rintro e w2 ⟨t2,rfl,hO,he,hb2⟩;(have HX:Hid (Own wr.heap.size w2 t2.rows∧t2.e=fl bs 1 l (i+1)∧Below wr.heap.size wr w2):=⟨hO,he,⟨hb2.os,hb2.tape,hb2.output,hb2.size,hb2.block⟩⟩);obtain ⟨⟨uaD,unD,ucD,uhD⟩,⟨uaI,unI,ucI,uhI⟩,⟨uaT,unT,ucT,uhT⟩,⟨uaJ,unJ,ucJ,uhJ⟩,⟨uaM,unM,ucM,uhM⟩,⟨uaS,unS,ucS,uhS⟩,⟨uaK,unK,ucK,uhK⟩,⟨uaL,unL,ucL,uhL⟩,⟨uaG,unG,ucG,uhG⟩⟩:=St.slices hO;obtain ⟨hx2,hy2⟩:=(HL1.out.box.up HX.out.2.2).cells;obtain ⟨up,ud,um,uvD,ulD,uvI,ulI,uvT,ulT,uvJ,ulJ,uvM,ulM,uvS,ulS,uvK,ulK,uvL,ulL,uvG,ulG⟩:=t2;simp only at uhD uhI uhT uhJ uhM uhS uhK uhL uhG;subst uhD uhI uhT uhJ uhM uhS uhK uhL uhG;simp only [St.c] at hx2 ⊢;(have z0:=hx2 0 _ rfl);(have g0:=hy2 0);(have z1:=hx2 1 _ rfl);(have g1:=hy2 1);(have z2:=hx2 2 _ rfl);(have g2:=hy2 2);(have z3:=hx2 3 _ rfl);(have g3:=hy2 3);(have z4:=hx2 4 _ rfl);(have g4:=hy2 4);(have z5:=hx2 5 _ rfl);(have g5:=hy2 5);(have z6:=hx2 6 _ rfl);(have g6:=hy2 6);(have z7:=hx2 7 _ rfl);(have g7:=hy2 7);(have z8:=hx2 8 _ rfl);(have g8:=hy2 8);(have z9:=hx2 9 _ rfl);(have g9:=hy2 9);(have z10:=hx2 10 _ rfl);(have g10:=hy2 10);(have z11:=hx2 11 _ rfl);(have g11:=hy2 11);clear hO he hb2 hx2 hy2 CA x0 x1 x2 x3 x4 x5 x6 x7 x8 x9 x10 x11)
           all_goals
             have HL3:Hid (Lp w W1b wk.heap.size v l bs 1 (i+1) ((((((((((((w2.setCell ⟨wk.heap.size,0,none⟩ (.int .u64 (up:Int))).setCell ⟨wk.heap.size,1,none⟩ (.int .u64 (ud:Int))).setCell ⟨wk.heap.size,2,none⟩ (.int .u64 (um:Int))).setCell ⟨wk.heap.size,3,none⟩ (.slice uaD unD ucD)).setCell ⟨wk.heap.size,4,none⟩ (.slice uaI unI ucI)).setCell ⟨wk.heap.size,5,none⟩ (.slice uaT unT ucT)).setCell ⟨wk.heap.size,6,none⟩ (.slice uaJ unJ ucJ)).setCell ⟨wk.heap.size,7,none⟩ (.slice uaM unM ucM)).setCell ⟨wk.heap.size,8,none⟩ (.slice uaS unS ucS)).setCell ⟨wk.heap.size,9,none⟩ (.slice uaK unK ucK)).setCell ⟨wk.heap.size,10,none⟩ (.slice uaL unL ucL)).setCell ⟨wk.heap.size,11,none⟩ (.slice uaG unG ucG)) ⟨up,ud,um,.slice uaD unD ucD,ulD,.slice uaI unI ucI,ulI,.slice uaT unT ucT,ulT,.slice uaJ unJ ucJ,ulJ,.slice uaM unM ucM,ulM,.slice uaS unS ucS,ulS,.slice uaK unK ucK,ulK,.slice uaL unL ucL,ulL,.slice uaG unG ucG,ulG⟩):=by
               have h:=HL1.out.next hsb1 HX.out.1 HX.out.2.1 HX.out.2.2
               unfold set12 at h
               exact h
             clear z0 g0 z1 g1 z2 g2 z3 g3 z4 g4 z5 g5 z6 g6 z7 g7 z8 g8 z9 g9 z10 g10 z11 g11 c0 c1 c2 c3 c4 c5 c6 c7 c8 c9 c10 c11 c12 HL1 HX
             generalize ((((((((((((w2.setCell ⟨wk.heap.size,0,none⟩ (.int .u64 (up:Int))).setCell ⟨wk.heap.size,1,none⟩ (.int .u64 (ud:Int))).setCell ⟨wk.heap.size,2,none⟩ (.int .u64 (um:Int))).setCell ⟨wk.heap.size,3,none⟩ (.slice uaD unD ucD)).setCell ⟨wk.heap.size,4,none⟩ (.slice uaI unI ucI)).setCell ⟨wk.heap.size,5,none⟩ (.slice uaT unT ucT)).setCell ⟨wk.heap.size,6,none⟩ (.slice uaJ unJ ucJ)).setCell ⟨wk.heap.size,7,none⟩ (.slice uaM unM ucM)).setCell ⟨wk.heap.size,8,none⟩ (.slice uaS unS ucS)).setCell ⟨wk.heap.size,9,none⟩ (.slice uaK unK ucK)).setCell ⟨wk.heap.size,10,none⟩ (.slice uaL unL ucL)).setCell ⟨wk.heap.size,11,none⟩ (.slice uaG unG ucG))=W3 at *
             go_wp2
             go_roundw
             case rel=>exact ⟨i+1,by simp,by omega,.inl (by omega),⟨_,HL3.out⟩⟩
             case measure=>simp [intOf];omega
         · have hat':n≤(i:Int):=by omega
           have hj:=hi
           generalize i=j at *
           have HA:Hid (∀k:Nat,k<l.length→n≤(k:Int)→j≤k):=by intro k h1 h2;omega
           have HB:Hid (∀k:Nat,k<l.length→¬n≤(k:Int)→k+1≤j):=by intro k h1 h2;omega
           have HJL:Hid (j≤l.length):=hj
           obtain ⟨t,hL⟩:=HW.out
           have HO:Hid (Below wk.heap.size wk wr):=hL.old (w5:=wk) rfl A3.out
           have hszt:Sz t:=Sz.of_e (by rw [hL.is];exact (fl_sn (off:=1) HZ.out HV.out j hj).sz)
           have CC2:Hid (∀W,Below wr.heap.size wr W→Calls Tryz.prog 6 #[.agg t.c.toArray] W fun e w'=>∃s':St,e=.returned (.agg s'.c.toArray)∧Own W.heap.size w' s'.rows∧s'.e=t.e∧Below W.heap.size W w'):=fun W hW=>Clone_any (hL.sv.up hW) hszt
           obtain ⟨⟨taD,tnD,tcD,thD⟩,⟨taI,tnI,tcI,thI⟩,⟨taT,tnT,tcT,thT⟩,⟨taJ,tnJ,tcJ,thJ⟩,⟨taM,tnM,tcM,thM⟩,⟨taS,tnS,tcS,thS⟩,⟨taK,tnK,tcK,thK⟩,⟨taL,tnL,tcL,thL⟩,⟨taG,tnG,tcG,thG⟩⟩:=St.cut hL.sv
           obtain ⟨hx,hy⟩:=hL.box.cells
           have HL1:Hid (Lp w W1b wk.heap.size v l bs 1 j wr t):=hL
           clear hL HW hszt HP1
           obtain ⟨tp,td,tm,tvD,tlD,tvI,tlI,tvT,tlT,tvJ,tlJ,tvM,tlM,tvS,tlS,tvK,tlK,tvL,tlL,tvG,tlG⟩:=t
           simp only at thD thI thT thJ thM thS thK thL thG
           subst thD thI thT thJ thM thS thK thL thG
           simp only [St.c] at CC2 hx
           have x0:=hx 0 _ rfl
           have x1:=hx 1 _ rfl
           have x2:=hx 2 _ rfl
           have x3:=hx 3 _ rfl
           have x4:=hx 4 _ rfl
           have x5:=hx 5 _ rfl
           have x6:=hx 6 _ rfl
           have x7:=hx 7 _ rfl
           have x8:=hx 8 _ rfl
           have x9:=hx 9 _ rfl
           have x10:=hx 10 _ rfl
           have x11:=hx 11 _ rfl
           clear hx hy
           go_upto_region 15 with (first
             | (go_at_call 6;refine (CC2.out _ brf).mono ?_;rintro e w3 ⟨t4,rfl,hO,he,hb3⟩;(have HX:Hid (Own wr.heap.size w3 t4.rows∧t4.e=(⟨tp,td,tm,.slice taD tnD tcD,tlD,.slice taI tnI tcI,tlI,.slice taT tnT tcT,tlT,.slice taJ tnJ tcJ,tlJ,.slice taM tnM tcM,tlM,.slice taS tnS tcS,tlS,.slice taK tnK tcK,tlK,.slice taL tnL tcL,tlL,.slice taG tnG tcG,tlG⟩:St).e∧Below wr.heap.size wr w3):=⟨hO,he,hb3⟩);obtain ⟨⟨uaD,unD,ucD,uhD⟩,⟨uaI,unI,ucI,uhI⟩,⟨uaT,unT,ucT,uhT⟩,⟨uaJ,unJ,ucJ,uhJ⟩,⟨uaM,unM,ucM,uhM⟩,⟨uaS,unS,ucS,uhS⟩,⟨uaK,unK,ucK,uhK⟩,⟨uaL,unL,ucL,uhL⟩,⟨uaG,unG,ucG,uhG⟩⟩:=St.slices hO;obtain ⟨up,ud,um,uvD,ulD,uvI,ulI,uvT,ulT,uvJ,ulJ,uvM,ulM,uvS,ulS,uvK,ulK,uvL,ulL,uvG,ulG⟩:=t4;simp only at uhD uhI uhT uhJ uhM uhS uhK uhL uhG;subst uhD uhI uhT uhJ uhM uhS uhK uhL uhG;simp only;(have HGu:Hid (w3.heap[wk.heap.size]?=some (.cells #[.int .u64 (tp:Int),.int .u64 (td:Int),.int .u64 (tm:Int),.slice taD tnD tcD,.slice taI tnI tcI,.slice taT tnT tcT,.slice taJ tnJ tcJ,.slice taM tnM tcM,.slice taS tnS tcS,.slice taK tnK tcK,.slice taL tnL tcL,.slice taG tnG tcG] 33 (0,0))):=HL1.out.box.up HX.out.2.2);(have HOn:Hid ((#[.int .u64 (up:Int),.int .u64 (ud:Int),.int .u64 (um:Int),.slice uaD unD ucD,.slice uaI unI ucI,.slice uaT unT ucT,.slice uaJ unJ ucJ,.slice uaM unM ucM,.slice uaS unS ucS,.slice uaK unK ucK,.slice uaL unL ucL,.slice uaG unG ucG]:Array Value).all (·.oneCell')=true):=by show _=_;simp [Value.oneCell']);clear hO he hb3 CC2 x0 x1 x2 x3 x4 x5 x6 x7 x8 x9 x10 x11)
             | (refine wpList_store_row rfl 33 _ _ rfl wk.heap.size #[.int .u64 (up:Int),.int .u64 (ud:Int),.int .u64 (um:Int),.slice uaD unD ucD,.slice uaI unI ucI,.slice uaT unT ucT,.slice uaJ unJ ucJ,.slice uaM unM ucM,.slice uaS unS ucS,.slice uaK unK ucK,.slice uaL unL ucL,.slice uaG unG ucG] rfl rfl 33 #[.int .u64 (tp:Int),.int .u64 (td:Int),.int .u64 (tm:Int),.slice taD tnD tcD,.slice taI tnI tcI,.slice taT tnT tcT,.slice taJ tnJ tcJ,.slice taM tnM tcM,.slice taS tnS tcS,.slice taK tnK tcK,.slice taL tnL tcL,.slice taG tnG tcG] HGu.out size12 rfl HOn.out ?_))
           have HY:Hid ((∃t,Lp w (w3.setRow wk.heap.size #[.int .u64 (up:Int),.int .u64 (ud:Int),.int .u64 (um:Int),.slice uaD unD ucD,.slice uaI unI ucI,.slice uaT unT ucT,.slice uaJ unJ ucJ,.slice uaM unM ucM,.slice uaS unS ucS,.slice uaK unK ucK,.slice uaL unL ucL,.slice uaG unG ucG]) wk.heap.size v l bs 1 (max 0 j) (w3.setRow wk.heap.size #[.int .u64 (up:Int),.int .u64 (ud:Int),.int .u64 (um:Int),.slice uaD unD ucD,.slice uaI unI ucI,.slice uaT unT ucT,.slice uaJ unJ ucJ,.slice uaM unM ucM,.slice uaS unS ucS,.slice uaK unK ucK,.slice uaL unL ucL,.slice uaG unG ucG]) t)∧Below wk.heap.size wk (w3.setRow wk.heap.size #[.int .u64 (up:Int),.int .u64 (ud:Int),.int .u64 (um:Int),.slice uaD unD ucD,.slice uaI unI ucI,.slice uaT unT ucT,.slice uaJ unJ ucJ,.slice uaM unM ucM,.slice uaS unS ucS,.slice uaK unK ucK,.slice uaL unL ucL,.slice uaG unG ucG])):=by
             obtain ⟨h1,h2,h3⟩:=HL1.out.box.lay HX.out.1 HX.out.2.2
             rw [set12_row2 HGu.out] at h1 h2 h3
             refine ⟨⟨⟨up,ud,um,.slice uaD unD ucD,ulD,.slice uaI unI ucI,ulI,.slice uaT unT ucT,ulT,.slice uaJ unJ ucJ,ulJ,.slice uaM unM ucM,ulM,.slice uaS unS ucS,ulS,.slice uaK unK ucK,ulK,.slice uaL unL ucL,ulL,.slice uaG unG ucG,ulG⟩,h1,h2,?_,Ch.refl _ _,HL1.out.bel.trans (h3.below HL1.out.bel.size (fun g hg e=>by omega))⟩,HO.out.trans (h3.below HO.out.size (fun g hg e=>by omega))⟩
             rw [HX.out.2.1,show max 0 j=j by omega]
             exact HL1.out.is
           clear HL1 HX HO HGu HOn
           generalize (w3.setRow wk.heap.size #[.int .u64 (up:Int),.int .u64 (ud:Int),.int .u64 (um:Int),.slice uaD unD ucD,.slice uaI unI ucI,.slice uaT unT ucT,.slice uaJ unJ ucJ,.slice uaM unM ucM,.slice uaS unS ucS,.slice uaK unK ucK,.slice uaL unL ucL,.slice uaG unG ucG])=W1c at *
           have HP2:Hid (∃t,Lp w W1c wk.heap.size v l bs 1 (max 0 j) W1c t):=HY.out.1
           have A4:Hid (Below wk.heap.size wk W1c∧True):=⟨HY.out.2,trivial⟩
           clear HY
           generalize wr=wcc at *
           go_frame
           go_cut [12] from 13 (fun v9 wx=>v9=.int .i64 0∧W1c=wx)
           case first =>
             go_wp2
             go_meet
             case rel=>exact ⟨rfl,rfl⟩
           obtain ⟨rfl,hwc⟩:=hcut
           subst hwc
           go_wp2
           go_loopw [12] (fun v12 wr=>∃i:Nat,v12=.int .i64 (i:Int)∧i≤l.length∧Hid (∃t,Lp w W1c wk.heap.size v l bs 1 (max i j) wr t)) (fun v12 _=>l.length-(intOf v12).toNat)
           case atStart=>exact ⟨0,rfl,Nat.zero_le _,HP2.out⟩
           case round =>
             obtain ⟨i,rfl,hi,HW⟩:=hrel
             by_cases hil:i<l.length
             · have hil':(i:Int)<(l.length:Int):=by omega
               by_cases hge:n≤(i:Int)
               · have hmi:max i j=i:=by have:=HA.out i hil (by omega);omega
                 have hmi1:max (i+1) j=i+1:=by have:=HA.out i hil (by omega);omega
                 rw [hmi] at HW
                 have HM1:Hid (max (i+1) j=i+1):=hmi1
                 clear hmi hmi1
                 have hi0:(0:Int)≤(i:Int):=by omega
                 have hcv:IntKind.u64.wrap (i:Int)=(i:Int):=by rw [IntKind.wrap_u64];omega
                 have hcv2:IntKind.u64.wrap ((i:Int)+1)=(i:Int)+1:=by rw [IntKind.wrap_u64];omega
                 obtain ⟨t,hL⟩:=HW.out
                 have CA:Hid (∀W,Below wr.heap.size wr W→Calls Tryz.prog 5 #[.agg t.c.toArray,.int .u64 ((i:Int)+1),.agg l[i].cs.toArray] W (Apd W (fl bs 1 l (i+1)))):=fun W hW=>hL.call hil HZ.out HK.out HR.out HV.out W hW
                 obtain ⟨b,off,cap',hv,hb,hc⟩:=rc_cells HL.out hil
                 obtain ⟨rfl,rfl⟩:a=some ⟨b,off,none⟩∧cap=cap':=by rw [HVA.out] at hv;injection hv with e1 _ e2;exact ⟨e1,e2⟩
                 obtain ⟨ra,rp,hra,-⟩:=(HR.out _ (List.getElem_mem hil)).1
                 have hc0:=hc wr hL.bel
                 have hrc:l[i].cs=[.int .i64 l[i].cl,.int .i64 l[i].kd,.int .u64 (l[i].fr:Int),.int .i64 l[i].tm,.int .u64 (l[i].k1:Int),.int .u64 (l[i].k2:Int),.int .u64 (l[i].k3:Int),.int .i64 l[i].n,.int .i64 l[i].m,.string (S l[i].a),.string (S l[i].b),.string (S l[i].c),.slice ra l[i].v.length rp]:=by unfold Rc.cs;rw [hra]
                 rw [hra] at hc0
                 rw [hrc] at CA
                 obtain ⟨c0,c1,c2,c3,c4,c5,c6,c7,c8,c9,c10,c11,c12⟩:=hc0
                 clear hv hc hra hrc
                 generalize l[i].cl=r0 at *
                 generalize l[i].kd=r1 at *
                 generalize l[i].fr=r2 at *
                 generalize l[i].tm=r3 at *
                 generalize l[i].k1=r4 at *
                 generalize l[i].k2=r5 at *
                 generalize l[i].k3=r6 at *
                 generalize l[i].n=r7 at *
                 generalize l[i].m=r8 at *
                 generalize l[i].a=r9 at *
                 generalize l[i].b=r10 at *
                 generalize l[i].c=r11 at *
                 generalize l[i].v.length=rn at *
                 simp only [Nat.add_zero] at c0
                 obtain ⟨⟨taD,tnD,tcD,thD⟩,⟨taI,tnI,tcI,thI⟩,⟨taT,tnT,tcT,thT⟩,⟨taJ,tnJ,tcJ,thJ⟩,⟨taM,tnM,tcM,thM⟩,⟨taS,tnS,tcS,thS⟩,⟨taK,tnK,tcK,thK⟩,⟨taL,tnL,tcL,thL⟩,⟨taG,tnG,tcG,thG⟩⟩:=St.cut hL.sv
                 obtain ⟨hx,hy⟩:=hL.box.cells
                 have HL1:Hid (Lp w W1c wk.heap.size v l bs 1 i wr t):=hL
                 have hsb:wk.heap.size<wr.heap.size:=hL.box.lt
                 clear hL HW
                 obtain ⟨tp,td,tm,tvD,tlD,tvI,tlI,tvT,tlT,tvJ,tlJ,tvM,tlM,tvS,tlS,tvK,tlK,tvL,tlL,tvG,tlG⟩:=t
                 simp only at thD thI thT thJ thM thS thK thL thG
                 subst thD thI thT thJ thM thS thK thL thG
                 simp only [St.c] at CA hx
                 have x0:=hx 0 _ rfl
                 have x1:=hx 1 _ rfl
                 have x2:=hx 2 _ rfl
                 have x3:=hx 3 _ rfl
                 have x4:=hx 4 _ rfl
                 have x5:=hx 5 _ rfl
                 have x6:=hx 6 _ rfl
                 have x7:=hx 7 _ rfl
                 have x8:=hx 8 _ rfl
                 have x9:=hx 9 _ rfl
                 have x10:=hx 10 _ rfl
                 have x11:=hx 11 _ rfl
                 clear hx hy A4 A2 HP2 HA HB
                 go_wp2
                 go_region_with (go_at_call 5;refine (CA.out _ (by first | exact brf | exact brf.drew)).mono ?_;rintro e w2 ⟨t2,rfl,hO,he,hb2⟩;(have HX:Hid (Own wr.heap.size w2 t2.rows∧t2.e=fl bs 1 l (i+1)∧Below wr.heap.size wr w2):=⟨hO,he,⟨hb2.os,hb2.tape,hb2.output,hb2.size,hb2.block⟩⟩);obtain ⟨⟨uaD,unD,ucD,uhD⟩,⟨uaI,unI,ucI,uhI⟩,⟨uaT,unT,ucT,uhT⟩,⟨uaJ,unJ,ucJ,uhJ⟩,⟨uaM,unM,ucM,uhM⟩,⟨uaS,unS,ucS,uhS⟩,⟨uaK,unK,ucK,uhK⟩,⟨uaL,unL,ucL,uhL⟩,⟨uaG,unG,ucG,uhG⟩⟩:=St.slices hO;obtain ⟨hx2,hy2⟩:=(HL1.out.box.up HX.out.2.2).cells;obtain ⟨up,ud,um,uvD,ulD,uvI,ulI,uvT,ulT,uvJ,ulJ,uvM,ulM,uvS,ulS,uvK,ulK,uvL,ulL,uvG,ulG⟩:=t2;simp only at uhD uhI uhT uhJ uhM uhS uhK uhL uhG;subst uhD uhI uhT uhJ uhM uhS uhK uhL uhG;simp only [St.c] at hx2 ⊢;(have z0:=hx2 0 _ rfl);(have g0:=hy2 0);(have z1:=hx2 1 _ rfl);(have g1:=hy2 1);(have z2:=hx2 2 _ rfl);(have g2:=hy2 2);(have z3:=hx2 3 _ rfl);(have g3:=hy2 3);(have z4:=hx2 4 _ rfl);(have g4:=hy2 4);(have z5:=hx2 5 _ rfl);(have g5:=hy2 5);(have z6:=hx2 6 _ rfl);(have g6:=hy2 6);(have z7:=hx2 7 _ rfl);(have g7:=hy2 7);(have z8:=hx2 8 _ rfl);(have g8:=hy2 8);(have z9:=hx2 9 _ rfl);(have g9:=hy2 9);(have z10:=hx2 10 _ rfl);(have g10:=hy2 10);(have z11:=hx2 11 _ rfl);(have g11:=hy2 11);clear hO he hb2 hx2 hy2 CA x0 x1 x2 x3 x4 x5 x6 x7 x8 x9 x10 x11)
                 all_goals
                   have HL3:Hid (Lp w W1c wk.heap.size v l bs 1 (i+1) ((((((((((((w2.setCell ⟨wk.heap.size,0,none⟩ (.int .u64 (up:Int))).setCell ⟨wk.heap.size,1,none⟩ (.int .u64 (ud:Int))).setCell ⟨wk.heap.size,2,none⟩ (.int .u64 (um:Int))).setCell ⟨wk.heap.size,3,none⟩ (.slice uaD unD ucD)).setCell ⟨wk.heap.size,4,none⟩ (.slice uaI unI ucI)).setCell ⟨wk.heap.size,5,none⟩ (.slice uaT unT ucT)).setCell ⟨wk.heap.size,6,none⟩ (.slice uaJ unJ ucJ)).setCell ⟨wk.heap.size,7,none⟩ (.slice uaM unM ucM)).setCell ⟨wk.heap.size,8,none⟩ (.slice uaS unS ucS)).setCell ⟨wk.heap.size,9,none⟩ (.slice uaK unK ucK)).setCell ⟨wk.heap.size,10,none⟩ (.slice uaL unL ucL)).setCell ⟨wk.heap.size,11,none⟩ (.slice uaG unG ucG)) ⟨up,ud,um,.slice uaD unD ucD,ulD,.slice uaI unI ucI,ulI,.slice uaT unT ucT,ulT,.slice uaJ unJ ucJ,ulJ,.slice uaM unM ucM,ulM,.slice uaS unS ucS,ulS,.slice uaK unK ucK,ulK,.slice uaL unL ucL,ulL,.slice uaG unG ucG,ulG⟩):=by
                     have h:=HL1.out.next hsb1 HX.out.1 HX.out.2.1 HX.out.2.2
                     unfold set12 at h
                     exact h
                   clear z0 g0 z1 g1 z2 g2 z3 g3 z4 g4 z5 g5 z6 g6 z7 g7 z8 g8 z9 g9 z10 g10 z11 g11 c0 c1 c2 c3 c4 c5 c6 c7 c8 c9 c10 c11 c12 HL1 HX
                   generalize ((((((((((((w2.setCell ⟨wk.heap.size,0,none⟩ (.int .u64 (up:Int))).setCell ⟨wk.heap.size,1,none⟩ (.int .u64 (ud:Int))).setCell ⟨wk.heap.size,2,none⟩ (.int .u64 (um:Int))).setCell ⟨wk.heap.size,3,none⟩ (.slice uaD unD ucD)).setCell ⟨wk.heap.size,4,none⟩ (.slice uaI unI ucI)).setCell ⟨wk.heap.size,5,none⟩ (.slice uaT unT ucT)).setCell ⟨wk.heap.size,6,none⟩ (.slice uaJ unJ ucJ)).setCell ⟨wk.heap.size,7,none⟩ (.slice uaM unM ucM)).setCell ⟨wk.heap.size,8,none⟩ (.slice uaS unS ucS)).setCell ⟨wk.heap.size,9,none⟩ (.slice uaK unK ucK)).setCell ⟨wk.heap.size,10,none⟩ (.slice uaL unL ucL)).setCell ⟨wk.heap.size,11,none⟩ (.slice uaG unG ucG))=W3 at *
                   go_wp2
                   go_roundw
                   case rel=>exact ⟨i+1,by simp,by omega,by rw [HM1.out];exact ⟨_,HL3.out⟩⟩
                   case measure=>simp [intOf];omega
               · as_aux_lemma =>
                   have hlt:(i:Int)<n:=by omega
                   have HM1:Hid (max (i+1) j=max i j):=by have:=HB.out i hil (by omega);show _=_;omega
                   have HW1:Hid (∃t,Lp w W1c wk.heap.size v l bs 1 (max (i+1) j) wr t):=by rw [HM1.out];exact HW.out
                   clear HM1 HW A4 A2 HP2 HA HB HL HR HV HVA HZ HK
                   go_wp2
                   go_roundw
                   case rel=>exact ⟨i+1,by simp,by omega,HW1.out⟩
                   case measure=>simp [intOf];omega
             · have hil':¬(i:Int)<(l.length:Int):=by omega
               have hjl:j≤l.length:=HJL.out
               as_aux_lemma =>
                 obtain ⟨t3,hL⟩:=HW.out
                 have ho:=hL.old (w5:=wk) rfl A4.out.1
                 have hm3:max i j=l.length:=by omega
                 have h3:=hL.is
                 rw [hm3] at h3
                 have hq:(⟨qp,qd,qm,.slice qaD qnD qcD,qlD,.slice qaI qnI qcI,qlI,.slice qaT qnT qcT,qlT,.slice qaJ qnJ qcJ,qlJ,.slice qaM qnM qcM,qlM,.slice qaS qnS qcS,qlS,.slice qaK qnK qcK,qlK,.slice qaL qnL qcL,qlL,.slice qaG qnG qcG,qlG⟩:St).e=t3.e:=A2.out.2.2.trans h3.symm
                 have hszq:Sz ⟨qp,qd,qm,.slice qaD qnD qcD,qlD,.slice qaI qnI qcI,qlI,.slice qaT qnT qcT,qlT,.slice qaJ qnJ qcJ,qlJ,.slice qaM qnM qcM,qlM,.slice qaS qnS qcS,qlS,.slice qaK qnK qcK,qlK,.slice qaL qnL qcL,qlL,.slice qaG qnG qcG,qlG⟩:=Sz.of_e (by rw [A2.out.2.2];exact (fl_sn (off:=1) HZ.out HV.out l.length nlr).sz)
                 have hsz3:Sz t3:=Sz.of_e (by rw [← hq,A2.out.2.2];exact (fl_sn (off:=1) HZ.out HV.out l.length nlr).sz)
                 have CF:Hid (∀W,Below wr.heap.size wr W→Calls Tryz.prog 7 #[.agg (⟨qp,qd,qm,.slice qaD qnD qcD,qlD,.slice qaI qnI qcI,qlI,.slice qaT qnT qcT,qlT,.slice qaJ qnJ qcJ,qlJ,.slice qaM qnM qcM,qlM,.slice qaS qnS qcS,qlS,.slice qaK qnK qcK,qlK,.slice qaL qnL qcL,qlL,.slice qaG qnG qcG,qlG⟩:St).c.toArray,.agg t3.c.toArray] W fun e w'=>e=.returned (.bool true)∧Below W.heap.size W w'):=fun W hW=>fSame_yes ((A2.out.2.1.up ho).up hW) (hL.sv.up hW) hq hszq hsz3
                 have CR:Hid (∀W,Below wr.heap.size wr W→Calls Tryz.prog 8 #[.agg (⟨qp,qd,qm,.slice qaD qnD qcD,qlD,.slice qaI qnI qcI,qlI,.slice qaT qnT qcT,qlT,.slice qaJ qnJ qcJ,qlJ,.slice qaM qnM qcM,qlM,.slice qaS qnS qcS,qlS,.slice qaK qnK qcK,qlK,.slice qaL qnL qcL,qlL,.slice qaG qnG qcG,qlG⟩:St).c.toArray,.agg t3.c.toArray] W fun e w'=>e=.returned (.bool true)∧Below W.heap.size W w'):=fun W hW=>dSame_yes ((A2.out.2.1.up ho).up hW) (hL.sv.up hW) hq hszq
                 have HBx:Hid (Bc wr w1.heap.size ⟨qp,qd,qm,.slice qaD qnD qcD,qlD,.slice qaI qnI qcI,qlI,.slice qaT qnT qcT,qlT,.slice qaJ qnJ qcJ,qlJ,.slice qaM qnM qcM,qlM,.slice qaS qnS qcS,qlS,.slice qaK qnK qcK,qlK,.slice qaL qnL qcL,qlL,.slice qaG qnG qcG,qlG⟩∧Bc wr wk.heap.size t3):=⟨A2.out.1.up ho,hL.box⟩
                 have HE:Hid (Below w.heap.size w wr):=hL.bel
                 obtain ⟨⟨kaD,knD,kcD,khD⟩,⟨kaI,knI,kcI,khI⟩,⟨kaT,knT,kcT,khT⟩,⟨kaJ,knJ,kcJ,khJ⟩,⟨kaM,knM,kcM,khM⟩,⟨kaS,knS,kcS,khS⟩,⟨kaK,knK,kcK,khK⟩,⟨kaL,knL,kcL,khL⟩,⟨kaG,knG,kcG,khG⟩⟩:=St.cut hL.sv
                 clear hq hszq hsz3 h3 hm3 ho hL HW A4 A2 HA HB HZ HK HL HR HV HVA HP2
                 obtain ⟨kp,kd,km,kvD,klD,kvI,klI,kvT,klT,kvJ,klJ,kvM,klM,kvS,klS,kvK,klK,kvL,klL,kvG,klG⟩:=t3
                 simp only at khD khI khT khJ khM khS khK khL khG
                 subst khD khI khT khJ khM khS khK khL khG
                 simp only [St.c] at CF CR
                 obtain ⟨hxx,-⟩:=Bc.cells HBx.out.1
                 simp only [St.c] at hxx
                 have x0:=hxx 0 _ rfl
                 have x1:=hxx 1 _ rfl
                 have x2:=hxx 2 _ rfl
                 have x3:=hxx 3 _ rfl
                 have x4:=hxx 4 _ rfl
                 have x5:=hxx 5 _ rfl
                 have x6:=hxx 6 _ rfl
                 have x7:=hxx 7 _ rfl
                 have x8:=hxx 8 _ rfl
                 have x9:=hxx 9 _ rfl
                 have x10:=hxx 10 _ rfl
                 have x11:=hxx 11 _ rfl
                 clear hxx
                 obtain ⟨hxy,-⟩:=Bc.cells HBx.out.2
                 simp only [St.c] at hxy
                 have y0:=hxy 0 _ rfl
                 have y1:=hxy 1 _ rfl
                 have y2:=hxy 2 _ rfl
                 have y3:=hxy 3 _ rfl
                 have y4:=hxy 4 _ rfl
                 have y5:=hxy 5 _ rfl
                 have y6:=hxy 6 _ rfl
                 have y7:=hxy 7 _ rfl
                 have y8:=hxy 8 _ rfl
                 have y9:=hxy 9 _ rfl
                 have y10:=hxy 10 _ rfl
                 have y11:=hxy 11 _ rfl
                 clear hxy
                 go_wp2_with (first
                   | (go_at_call 7;refine (CF.out _ brf).mono ?_;rintro e w6 ⟨rfl,b6⟩;clear CF x0 x1 x2 x3 x4 x5 x6 x7 x8 x9 x10 x11 y0 y1 y2 y3 y4 y5 y6 y7 y8 y9 y10 y11;(have B6:Hid (Below wr.heap.size wr w6):=b6);(have H6:Hid (Below w.heap.size w w6):=bel_of HE.out b6 nlr);obtain ⟨hxx,-⟩:=Bc.cells (HBx.out.1.up b6);(have x0:=hxx 0 _ rfl);(have x1:=hxx 1 _ rfl);(have x2:=hxx 2 _ rfl);(have x3:=hxx 3 _ rfl);(have x4:=hxx 4 _ rfl);(have x5:=hxx 5 _ rfl);(have x6:=hxx 6 _ rfl);(have x7:=hxx 7 _ rfl);(have x8:=hxx 8 _ rfl);(have x9:=hxx 9 _ rfl);(have x10:=hxx 10 _ rfl);(have x11:=hxx 11 _ rfl);clear hxx;obtain ⟨hxy,-⟩:=Bc.cells (HBx.out.2.up b6);(have y0:=hxy 0 _ rfl);(have y1:=hxy 1 _ rfl);(have y2:=hxy 2 _ rfl);(have y3:=hxy 3 _ rfl);(have y4:=hxy 4 _ rfl);(have y5:=hxy 5 _ rfl);(have y6:=hxy 6 _ rfl);(have y7:=hxy 7 _ rfl);(have y8:=hxy 8 _ rfl);(have y9:=hxy 9 _ rfl);(have y10:=hxy 10 _ rfl);(have y11:=hxy 11 _ rfl);clear hxy;clear b6 HBx HE)
                   | (go_at_call 8;refine (CR.out _ B6.out).mono ?_;rintro e w7 ⟨rfl,b7⟩;(have H7:Hid (Below w.heap.size w w7):=bel_of H6.out b7 nlr);clear b7 CR))
                 go_ret
                 exact ⟨rfl,H7.out⟩
       · have hil':¬(i:Int)<(l.length:Int):=by omega
         have hj:=hi
         generalize i=j at *
         have HA:Hid (∀k:Nat,k<l.length→n≤(k:Int)→j≤k):=by intro k h1 h2;omega
         have HB:Hid (∀k:Nat,k<l.length→¬n≤(k:Int)→k+1≤j):=by intro k h1 h2;omega
         have HJL:Hid (j≤l.length):=hj
         obtain ⟨t,hL⟩:=HW.out
         have HO:Hid (Below wk.heap.size wk wr):=hL.old (w5:=wk) rfl A3.out
         have hszt:Sz t:=Sz.of_e (by rw [hL.is];exact (fl_sn (off:=1) HZ.out HV.out j hj).sz)
         have CC2:Hid (∀W,Below wr.heap.size wr W→Calls Tryz.prog 6 #[.agg t.c.toArray] W fun e w'=>∃s':St,e=.returned (.agg s'.c.toArray)∧Own W.heap.size w' s'.rows∧s'.e=t.e∧Below W.heap.size W w'):=fun W hW=>Clone_any (hL.sv.up hW) hszt
         obtain ⟨⟨taD,tnD,tcD,thD⟩,⟨taI,tnI,tcI,thI⟩,⟨taT,tnT,tcT,thT⟩,⟨taJ,tnJ,tcJ,thJ⟩,⟨taM,tnM,tcM,thM⟩,⟨taS,tnS,tcS,thS⟩,⟨taK,tnK,tcK,thK⟩,⟨taL,tnL,tcL,thL⟩,⟨taG,tnG,tcG,thG⟩⟩:=St.cut hL.sv
         obtain ⟨hx,hy⟩:=hL.box.cells
         have HL1:Hid (Lp w W1b wk.heap.size v l bs 1 j wr t):=hL
         clear hL HW hszt HP1
         obtain ⟨tp,td,tm,tvD,tlD,tvI,tlI,tvT,tlT,tvJ,tlJ,tvM,tlM,tvS,tlS,tvK,tlK,tvL,tlL,tvG,tlG⟩:=t
         simp only at thD thI thT thJ thM thS thK thL thG
         subst thD thI thT thJ thM thS thK thL thG
         simp only [St.c] at CC2 hx
         have x0:=hx 0 _ rfl
         have x1:=hx 1 _ rfl
         have x2:=hx 2 _ rfl
         have x3:=hx 3 _ rfl
         have x4:=hx 4 _ rfl
         have x5:=hx 5 _ rfl
         have x6:=hx 6 _ rfl
         have x7:=hx 7 _ rfl
         have x8:=hx 8 _ rfl
         have x9:=hx 9 _ rfl
         have x10:=hx 10 _ rfl
         have x11:=hx 11 _ rfl
         clear hx hy
         go_upto_region 15 with (first
           | (go_at_call 6;refine (CC2.out _ brf).mono ?_;rintro e w3 ⟨t4,rfl,hO,he,hb3⟩;(have HX:Hid (Own wr.heap.size w3 t4.rows∧t4.e=(⟨tp,td,tm,.slice taD tnD tcD,tlD,.slice taI tnI tcI,tlI,.slice taT tnT tcT,tlT,.slice taJ tnJ tcJ,tlJ,.slice taM tnM tcM,tlM,.slice taS tnS tcS,tlS,.slice taK tnK tcK,tlK,.slice taL tnL tcL,tlL,.slice taG tnG tcG,tlG⟩:St).e∧Below wr.heap.size wr w3):=⟨hO,he,hb3⟩);obtain ⟨⟨uaD,unD,ucD,uhD⟩,⟨uaI,unI,ucI,uhI⟩,⟨uaT,unT,ucT,uhT⟩,⟨uaJ,unJ,ucJ,uhJ⟩,⟨uaM,unM,ucM,uhM⟩,⟨uaS,unS,ucS,uhS⟩,⟨uaK,unK,ucK,uhK⟩,⟨uaL,unL,ucL,uhL⟩,⟨uaG,unG,ucG,uhG⟩⟩:=St.slices hO;obtain ⟨up,ud,um,uvD,ulD,uvI,ulI,uvT,ulT,uvJ,ulJ,uvM,ulM,uvS,ulS,uvK,ulK,uvL,ulL,uvG,ulG⟩:=t4;simp only at uhD uhI uhT uhJ uhM uhS uhK uhL uhG;subst uhD uhI uhT uhJ uhM uhS uhK uhL uhG;simp only;(have HGu:Hid (w3.heap[wk.heap.size]?=some (.cells #[.int .u64 (tp:Int),.int .u64 (td:Int),.int .u64 (tm:Int),.slice taD tnD tcD,.slice taI tnI tcI,.slice taT tnT tcT,.slice taJ tnJ tcJ,.slice taM tnM tcM,.slice taS tnS tcS,.slice taK tnK tcK,.slice taL tnL tcL,.slice taG tnG tcG] 33 (0,0))):=HL1.out.box.up HX.out.2.2);(have HOn:Hid ((#[.int .u64 (up:Int),.int .u64 (ud:Int),.int .u64 (um:Int),.slice uaD unD ucD,.slice uaI unI ucI,.slice uaT unT ucT,.slice uaJ unJ ucJ,.slice uaM unM ucM,.slice uaS unS ucS,.slice uaK unK ucK,.slice uaL unL ucL,.slice uaG unG ucG]:Array Value).all (·.oneCell')=true):=by show _=_;simp [Value.oneCell']);clear hO he hb3 CC2 x0 x1 x2 x3 x4 x5 x6 x7 x8 x9 x10 x11)
           | (refine wpList_store_row rfl 33 _ _ rfl wk.heap.size #[.int .u64 (up:Int),.int .u64 (ud:Int),.int .u64 (um:Int),.slice uaD unD ucD,.slice uaI unI ucI,.slice uaT unT ucT,.slice uaJ unJ ucJ,.slice uaM unM ucM,.slice uaS unS ucS,.slice uaK unK ucK,.slice uaL unL ucL,.slice uaG unG ucG] rfl rfl 33 #[.int .u64 (tp:Int),.int .u64 (td:Int),.int .u64 (tm:Int),.slice taD tnD tcD,.slice taI tnI tcI,.slice taT tnT tcT,.slice taJ tnJ tcJ,.slice taM tnM tcM,.slice taS tnS tcS,.slice taK tnK tcK,.slice taL tnL tcL,.slice taG tnG tcG] HGu.out size12 rfl HOn.out ?_))
         have HY:Hid ((∃t,Lp w (w3.setRow wk.heap.size #[.int .u64 (up:Int),.int .u64 (ud:Int),.int .u64 (um:Int),.slice uaD unD ucD,.slice uaI unI ucI,.slice uaT unT ucT,.slice uaJ unJ ucJ,.slice uaM unM ucM,.slice uaS unS ucS,.slice uaK unK ucK,.slice uaL unL ucL,.slice uaG unG ucG]) wk.heap.size v l bs 1 (max 0 j) (w3.setRow wk.heap.size #[.int .u64 (up:Int),.int .u64 (ud:Int),.int .u64 (um:Int),.slice uaD unD ucD,.slice uaI unI ucI,.slice uaT unT ucT,.slice uaJ unJ ucJ,.slice uaM unM ucM,.slice uaS unS ucS,.slice uaK unK ucK,.slice uaL unL ucL,.slice uaG unG ucG]) t)∧Below wk.heap.size wk (w3.setRow wk.heap.size #[.int .u64 (up:Int),.int .u64 (ud:Int),.int .u64 (um:Int),.slice uaD unD ucD,.slice uaI unI ucI,.slice uaT unT ucT,.slice uaJ unJ ucJ,.slice uaM unM ucM,.slice uaS unS ucS,.slice uaK unK ucK,.slice uaL unL ucL,.slice uaG unG ucG])):=by
           obtain ⟨h1,h2,h3⟩:=HL1.out.box.lay HX.out.1 HX.out.2.2
           rw [set12_row2 HGu.out] at h1 h2 h3
           refine ⟨⟨⟨up,ud,um,.slice uaD unD ucD,ulD,.slice uaI unI ucI,ulI,.slice uaT unT ucT,ulT,.slice uaJ unJ ucJ,ulJ,.slice uaM unM ucM,ulM,.slice uaS unS ucS,ulS,.slice uaK unK ucK,ulK,.slice uaL unL ucL,ulL,.slice uaG unG ucG,ulG⟩,h1,h2,?_,Ch.refl _ _,HL1.out.bel.trans (h3.below HL1.out.bel.size (fun g hg e=>by omega))⟩,HO.out.trans (h3.below HO.out.size (fun g hg e=>by omega))⟩
           rw [HX.out.2.1,show max 0 j=j by omega]
           exact HL1.out.is
         clear HL1 HX HO HGu HOn
         generalize (w3.setRow wk.heap.size #[.int .u64 (up:Int),.int .u64 (ud:Int),.int .u64 (um:Int),.slice uaD unD ucD,.slice uaI unI ucI,.slice uaT unT ucT,.slice uaJ unJ ucJ,.slice uaM unM ucM,.slice uaS unS ucS,.slice uaK unK ucK,.slice uaL unL ucL,.slice uaG unG ucG])=W1c at *
         have HP2:Hid (∃t,Lp w W1c wk.heap.size v l bs 1 (max 0 j) W1c t):=HY.out.1
         have A4:Hid (Below wk.heap.size wk W1c∧True):=⟨HY.out.2,trivial⟩
         clear HY
         generalize wr=wcc at *
         go_frame
         go_cut [12] from 13 (fun v9 wx=>v9=.int .i64 0∧W1c=wx)
         case first =>
           go_wp2
           go_meet
           case rel=>exact ⟨rfl,rfl⟩
         obtain ⟨rfl,hwc⟩:=hcut
         subst hwc
         go_wp2
         go_loopw [12] (fun v12 wr=>∃i:Nat,v12=.int .i64 (i:Int)∧i≤l.length∧Hid (∃t,Lp w W1c wk.heap.size v l bs 1 (max i j) wr t)) (fun v12 _=>l.length-(intOf v12).toNat)
         case atStart=>exact ⟨0,rfl,Nat.zero_le _,HP2.out⟩
         case round =>
           obtain ⟨i,rfl,hi,HW⟩:=hrel
           by_cases hil:i<l.length
           · have hil':(i:Int)<(l.length:Int):=by omega
             by_cases hge:n≤(i:Int)
             · have hmi:max i j=i:=by have:=HA.out i hil (by omega);omega
               have hmi1:max (i+1) j=i+1:=by have:=HA.out i hil (by omega);omega
               rw [hmi] at HW
               have HM1:Hid (max (i+1) j=i+1):=hmi1
               clear hmi hmi1
               have hi0:(0:Int)≤(i:Int):=by omega
               have hcv:IntKind.u64.wrap (i:Int)=(i:Int):=by rw [IntKind.wrap_u64];omega
               have hcv2:IntKind.u64.wrap ((i:Int)+1)=(i:Int)+1:=by rw [IntKind.wrap_u64];omega
               obtain ⟨t,hL⟩:=HW.out
               have CA:Hid (∀W,Below wr.heap.size wr W→Calls Tryz.prog 5 #[.agg t.c.toArray,.int .u64 ((i:Int)+1),.agg l[i].cs.toArray] W (Apd W (fl bs 1 l (i+1)))):=fun W hW=>hL.call hil HZ.out HK.out HR.out HV.out W hW
               obtain ⟨b,off,cap',hv,hb,hc⟩:=rc_cells HL.out hil
               obtain ⟨rfl,rfl⟩:a=some ⟨b,off,none⟩∧cap=cap':=by rw [HVA.out] at hv;injection hv with e1 _ e2;exact ⟨e1,e2⟩
               obtain ⟨ra,rp,hra,-⟩:=(HR.out _ (List.getElem_mem hil)).1
               have hc0:=hc wr hL.bel
               have hrc:l[i].cs=[.int .i64 l[i].cl,.int .i64 l[i].kd,.int .u64 (l[i].fr:Int),.int .i64 l[i].tm,.int .u64 (l[i].k1:Int),.int .u64 (l[i].k2:Int),.int .u64 (l[i].k3:Int),.int .i64 l[i].n,.int .i64 l[i].m,.string (S l[i].a),.string (S l[i].b),.string (S l[i].c),.slice ra l[i].v.length rp]:=by unfold Rc.cs;rw [hra]
               rw [hra] at hc0
               rw [hrc] at CA
               obtain ⟨c0,c1,c2,c3,c4,c5,c6,c7,c8,c9,c10,c11,c12⟩:=hc0
               clear hv hc hra hrc
               generalize l[i].cl=r0 at *
               generalize l[i].kd=r1 at *
               generalize l[i].fr=r2 at *
               generalize l[i].tm=r3 at *
               generalize l[i].k1=r4 at *
               generalize l[i].k2=r5 at *
               generalize l[i].k3=r6 at *
               generalize l[i].n=r7 at *
               generalize l[i].m=r8 at *
               generalize l[i].a=r9 at *
               generalize l[i].b=r10 at *
               generalize l[i].c=r11 at *
               generalize l[i].v.length=rn at *
               simp only [Nat.add_zero] at c0
               obtain ⟨⟨taD,tnD,tcD,thD⟩,⟨taI,tnI,tcI,thI⟩,⟨taT,tnT,tcT,thT⟩,⟨taJ,tnJ,tcJ,thJ⟩,⟨taM,tnM,tcM,thM⟩,⟨taS,tnS,tcS,thS⟩,⟨taK,tnK,tcK,thK⟩,⟨taL,tnL,tcL,thL⟩,⟨taG,tnG,tcG,thG⟩⟩:=St.cut hL.sv
               obtain ⟨hx,hy⟩:=hL.box.cells
               have HL1:Hid (Lp w W1c wk.heap.size v l bs 1 i wr t):=hL
               have hsb:wk.heap.size<wr.heap.size:=hL.box.lt
               clear hL HW
               obtain ⟨tp,td,tm,tvD,tlD,tvI,tlI,tvT,tlT,tvJ,tlJ,tvM,tlM,tvS,tlS,tvK,tlK,tvL,tlL,tvG,tlG⟩:=t
               simp only at thD thI thT thJ thM thS thK thL thG
               subst thD thI thT thJ thM thS thK thL thG
               simp only [St.c] at CA hx
               have x0:=hx 0 _ rfl
               have x1:=hx 1 _ rfl
               have x2:=hx 2 _ rfl
               have x3:=hx 3 _ rfl
               have x4:=hx 4 _ rfl
               have x5:=hx 5 _ rfl
               have x6:=hx 6 _ rfl
               have x7:=hx 7 _ rfl
               have x8:=hx 8 _ rfl
               have x9:=hx 9 _ rfl
               have x10:=hx 10 _ rfl
               have x11:=hx 11 _ rfl
               clear hx hy A4 A2 HP2 HA HB
               go_wp2
               go_region_with (go_at_call 5;refine (CA.out _ (by first | exact brf | exact brf.drew)).mono ?_;rintro e w2 ⟨t2,rfl,hO,he,hb2⟩;(have HX:Hid (Own wr.heap.size w2 t2.rows∧t2.e=fl bs 1 l (i+1)∧Below wr.heap.size wr w2):=⟨hO,he,⟨hb2.os,hb2.tape,hb2.output,hb2.size,hb2.block⟩⟩);obtain ⟨⟨uaD,unD,ucD,uhD⟩,⟨uaI,unI,ucI,uhI⟩,⟨uaT,unT,ucT,uhT⟩,⟨uaJ,unJ,ucJ,uhJ⟩,⟨uaM,unM,ucM,uhM⟩,⟨uaS,unS,ucS,uhS⟩,⟨uaK,unK,ucK,uhK⟩,⟨uaL,unL,ucL,uhL⟩,⟨uaG,unG,ucG,uhG⟩⟩:=St.slices hO;obtain ⟨hx2,hy2⟩:=(HL1.out.box.up HX.out.2.2).cells;obtain ⟨up,ud,um,uvD,ulD,uvI,ulI,uvT,ulT,uvJ,ulJ,uvM,ulM,uvS,ulS,uvK,ulK,uvL,ulL,uvG,ulG⟩:=t2;simp only at uhD uhI uhT uhJ uhM uhS uhK uhL uhG;subst uhD uhI uhT uhJ uhM uhS uhK uhL uhG;simp only [St.c] at hx2 ⊢;(have z0:=hx2 0 _ rfl);(have g0:=hy2 0);(have z1:=hx2 1 _ rfl);(have g1:=hy2 1);(have z2:=hx2 2 _ rfl);(have g2:=hy2 2);(have z3:=hx2 3 _ rfl);(have g3:=hy2 3);(have z4:=hx2 4 _ rfl);(have g4:=hy2 4);(have z5:=hx2 5 _ rfl);(have g5:=hy2 5);(have z6:=hx2 6 _ rfl);(have g6:=hy2 6);(have z7:=hx2 7 _ rfl);(have g7:=hy2 7);(have z8:=hx2 8 _ rfl);(have g8:=hy2 8);(have z9:=hx2 9 _ rfl);(have g9:=hy2 9);(have z10:=hx2 10 _ rfl);(have g10:=hy2 10);(have z11:=hx2 11 _ rfl);(have g11:=hy2 11);clear hO he hb2 hx2 hy2 CA x0 x1 x2 x3 x4 x5 x6 x7 x8 x9 x10 x11)
               all_goals
                 have HL3:Hid (Lp w W1c wk.heap.size v l bs 1 (i+1) ((((((((((((w2.setCell ⟨wk.heap.size,0,none⟩ (.int .u64 (up:Int))).setCell ⟨wk.heap.size,1,none⟩ (.int .u64 (ud:Int))).setCell ⟨wk.heap.size,2,none⟩ (.int .u64 (um:Int))).setCell ⟨wk.heap.size,3,none⟩ (.slice uaD unD ucD)).setCell ⟨wk.heap.size,4,none⟩ (.slice uaI unI ucI)).setCell ⟨wk.heap.size,5,none⟩ (.slice uaT unT ucT)).setCell ⟨wk.heap.size,6,none⟩ (.slice uaJ unJ ucJ)).setCell ⟨wk.heap.size,7,none⟩ (.slice uaM unM ucM)).setCell ⟨wk.heap.size,8,none⟩ (.slice uaS unS ucS)).setCell ⟨wk.heap.size,9,none⟩ (.slice uaK unK ucK)).setCell ⟨wk.heap.size,10,none⟩ (.slice uaL unL ucL)).setCell ⟨wk.heap.size,11,none⟩ (.slice uaG unG ucG)) ⟨up,ud,um,.slice uaD unD ucD,ulD,.slice uaI unI ucI,ulI,.slice uaT unT ucT,ulT,.slice uaJ unJ ucJ,ulJ,.slice uaM unM ucM,ulM,.slice uaS unS ucS,ulS,.slice uaK unK ucK,ulK,.slice uaL unL ucL,ulL,.slice uaG unG ucG,ulG⟩):=by
                   have h:=HL1.out.next hsb1 HX.out.1 HX.out.2.1 HX.out.2.2
                   unfold set12 at h
                   exact h
                 clear z0 g0 z1 g1 z2 g2 z3 g3 z4 g4 z5 g5 z6 g6 z7 g7 z8 g8 z9 g9 z10 g10 z11 g11 c0 c1 c2 c3 c4 c5 c6 c7 c8 c9 c10 c11 c12 HL1 HX
                 generalize ((((((((((((w2.setCell ⟨wk.heap.size,0,none⟩ (.int .u64 (up:Int))).setCell ⟨wk.heap.size,1,none⟩ (.int .u64 (ud:Int))).setCell ⟨wk.heap.size,2,none⟩ (.int .u64 (um:Int))).setCell ⟨wk.heap.size,3,none⟩ (.slice uaD unD ucD)).setCell ⟨wk.heap.size,4,none⟩ (.slice uaI unI ucI)).setCell ⟨wk.heap.size,5,none⟩ (.slice uaT unT ucT)).setCell ⟨wk.heap.size,6,none⟩ (.slice uaJ unJ ucJ)).setCell ⟨wk.heap.size,7,none⟩ (.slice uaM unM ucM)).setCell ⟨wk.heap.size,8,none⟩ (.slice uaS unS ucS)).setCell ⟨wk.heap.size,9,none⟩ (.slice uaK unK ucK)).setCell ⟨wk.heap.size,10,none⟩ (.slice uaL unL ucL)).setCell ⟨wk.heap.size,11,none⟩ (.slice uaG unG ucG))=W3 at *
                 go_wp2
                 go_roundw
                 case rel=>exact ⟨i+1,by simp,by omega,by rw [HM1.out];exact ⟨_,HL3.out⟩⟩
                 case measure=>simp [intOf];omega
             · as_aux_lemma =>
                 have hlt:(i:Int)<n:=by omega
                 have HM1:Hid (max (i+1) j=max i j):=by have:=HB.out i hil (by omega);show _=_;omega
                 have HW1:Hid (∃t,Lp w W1c wk.heap.size v l bs 1 (max (i+1) j) wr t):=by rw [HM1.out];exact HW.out
                 clear HM1 HW A4 A2 HP2 HA HB HL HR HV HVA HZ HK
                 go_wp2
                 go_roundw
                 case rel=>exact ⟨i+1,by simp,by omega,HW1.out⟩
                 case measure=>simp [intOf];omega
           · have hil':¬(i:Int)<(l.length:Int):=by omega
             have hjl:j≤l.length:=HJL.out
             as_aux_lemma =>
               obtain ⟨t3,hL⟩:=HW.out
               have ho:=hL.old (w5:=wk) rfl A4.out.1
               have hm3:max i j=l.length:=by omega
               have h3:=hL.is
               rw [hm3] at h3
               have hq:(⟨qp,qd,qm,.slice qaD qnD qcD,qlD,.slice qaI qnI qcI,qlI,.slice qaT qnT qcT,qlT,.slice qaJ qnJ qcJ,qlJ,.slice qaM qnM qcM,qlM,.slice qaS qnS qcS,qlS,.slice qaK qnK qcK,qlK,.slice qaL qnL qcL,qlL,.slice qaG qnG qcG,qlG⟩:St).e=t3.e:=A2.out.2.2.trans h3.symm
               have hszq:Sz ⟨qp,qd,qm,.slice qaD qnD qcD,qlD,.slice qaI qnI qcI,qlI,.slice qaT qnT qcT,qlT,.slice qaJ qnJ qcJ,qlJ,.slice qaM qnM qcM,qlM,.slice qaS qnS qcS,qlS,.slice qaK qnK qcK,qlK,.slice qaL qnL qcL,qlL,.slice qaG qnG qcG,qlG⟩:=Sz.of_e (by rw [A2.out.2.2];exact (fl_sn (off:=1) HZ.out HV.out l.length nlr).sz)
               have hsz3:Sz t3:=Sz.of_e (by rw [← hq,A2.out.2.2];exact (fl_sn (off:=1) HZ.out HV.out l.length nlr).sz)
               have CF:Hid (∀W,Below wr.heap.size wr W→Calls Tryz.prog 7 #[.agg (⟨qp,qd,qm,.slice qaD qnD qcD,qlD,.slice qaI qnI qcI,qlI,.slice qaT qnT qcT,qlT,.slice qaJ qnJ qcJ,qlJ,.slice qaM qnM qcM,qlM,.slice qaS qnS qcS,qlS,.slice qaK qnK qcK,qlK,.slice qaL qnL qcL,qlL,.slice qaG qnG qcG,qlG⟩:St).c.toArray,.agg t3.c.toArray] W fun e w'=>e=.returned (.bool true)∧Below W.heap.size W w'):=fun W hW=>fSame_yes ((A2.out.2.1.up ho).up hW) (hL.sv.up hW) hq hszq hsz3
               have CR:Hid (∀W,Below wr.heap.size wr W→Calls Tryz.prog 8 #[.agg (⟨qp,qd,qm,.slice qaD qnD qcD,qlD,.slice qaI qnI qcI,qlI,.slice qaT qnT qcT,qlT,.slice qaJ qnJ qcJ,qlJ,.slice qaM qnM qcM,qlM,.slice qaS qnS qcS,qlS,.slice qaK qnK qcK,qlK,.slice qaL qnL qcL,qlL,.slice qaG qnG qcG,qlG⟩:St).c.toArray,.agg t3.c.toArray] W fun e w'=>e=.returned (.bool true)∧Below W.heap.size W w'):=fun W hW=>dSame_yes ((A2.out.2.1.up ho).up hW) (hL.sv.up hW) hq hszq
               have HBx:Hid (Bc wr w1.heap.size ⟨qp,qd,qm,.slice qaD qnD qcD,qlD,.slice qaI qnI qcI,qlI,.slice qaT qnT qcT,qlT,.slice qaJ qnJ qcJ,qlJ,.slice qaM qnM qcM,qlM,.slice qaS qnS qcS,qlS,.slice qaK qnK qcK,qlK,.slice qaL qnL qcL,qlL,.slice qaG qnG qcG,qlG⟩∧Bc wr wk.heap.size t3):=⟨A2.out.1.up ho,hL.box⟩
               have HE:Hid (Below w.heap.size w wr):=hL.bel
               obtain ⟨⟨kaD,knD,kcD,khD⟩,⟨kaI,knI,kcI,khI⟩,⟨kaT,knT,kcT,khT⟩,⟨kaJ,knJ,kcJ,khJ⟩,⟨kaM,knM,kcM,khM⟩,⟨kaS,knS,kcS,khS⟩,⟨kaK,knK,kcK,khK⟩,⟨kaL,knL,kcL,khL⟩,⟨kaG,knG,kcG,khG⟩⟩:=St.cut hL.sv
               clear hq hszq hsz3 h3 hm3 ho hL HW A4 A2 HA HB HZ HK HL HR HV HVA HP2
               obtain ⟨kp,kd,km,kvD,klD,kvI,klI,kvT,klT,kvJ,klJ,kvM,klM,kvS,klS,kvK,klK,kvL,klL,kvG,klG⟩:=t3
               simp only at khD khI khT khJ khM khS khK khL khG
               subst khD khI khT khJ khM khS khK khL khG
               simp only [St.c] at CF CR
               obtain ⟨hxx,-⟩:=Bc.cells HBx.out.1
               simp only [St.c] at hxx
               have x0:=hxx 0 _ rfl
               have x1:=hxx 1 _ rfl
               have x2:=hxx 2 _ rfl
               have x3:=hxx 3 _ rfl
               have x4:=hxx 4 _ rfl
               have x5:=hxx 5 _ rfl
               have x6:=hxx 6 _ rfl
               have x7:=hxx 7 _ rfl
               have x8:=hxx 8 _ rfl
               have x9:=hxx 9 _ rfl
               have x10:=hxx 10 _ rfl
               have x11:=hxx 11 _ rfl
               clear hxx
               obtain ⟨hxy,-⟩:=Bc.cells HBx.out.2
               simp only [St.c] at hxy
               have y0:=hxy 0 _ rfl
               have y1:=hxy 1 _ rfl
               have y2:=hxy 2 _ rfl
               have y3:=hxy 3 _ rfl
               have y4:=hxy 4 _ rfl
               have y5:=hxy 5 _ rfl
               have y6:=hxy 6 _ rfl
               have y7:=hxy 7 _ rfl
               have y8:=hxy 8 _ rfl
               have y9:=hxy 9 _ rfl
               have y10:=hxy 10 _ rfl
               have y11:=hxy 11 _ rfl
               clear hxy
               go_wp2_with (first
                 | (go_at_call 7;refine (CF.out _ brf).mono ?_;rintro e w6 ⟨rfl,b6⟩;clear CF x0 x1 x2 x3 x4 x5 x6 x7 x8 x9 x10 x11 y0 y1 y2 y3 y4 y5 y6 y7 y8 y9 y10 y11;(have B6:Hid (Below wr.heap.size wr w6):=b6);(have H6:Hid (Below w.heap.size w w6):=bel_of HE.out b6 nlr);obtain ⟨hxx,-⟩:=Bc.cells (HBx.out.1.up b6);(have x0:=hxx 0 _ rfl);(have x1:=hxx 1 _ rfl);(have x2:=hxx 2 _ rfl);(have x3:=hxx 3 _ rfl);(have x4:=hxx 4 _ rfl);(have x5:=hxx 5 _ rfl);(have x6:=hxx 6 _ rfl);(have x7:=hxx 7 _ rfl);(have x8:=hxx 8 _ rfl);(have x9:=hxx 9 _ rfl);(have x10:=hxx 10 _ rfl);(have x11:=hxx 11 _ rfl);clear hxx;obtain ⟨hxy,-⟩:=Bc.cells (HBx.out.2.up b6);(have y0:=hxy 0 _ rfl);(have y1:=hxy 1 _ rfl);(have y2:=hxy 2 _ rfl);(have y3:=hxy 3 _ rfl);(have y4:=hxy 4 _ rfl);(have y5:=hxy 5 _ rfl);(have y6:=hxy 6 _ rfl);(have y7:=hxy 7 _ rfl);(have y8:=hxy 8 _ rfl);(have y9:=hxy 9 _ rfl);(have y10:=hxy 10 _ rfl);(have y11:=hxy 11 _ rfl);clear hxy;clear b6 HBx HE)
                 | (go_at_call 8;refine (CR.out _ B6.out).mono ?_;rintro e w7 ⟨rfl,b7⟩;(have H7:Hid (Below w.heap.size w w7):=bel_of H6.out b7 nlr);clear b7 CR))
               go_ret
               exact ⟨rfl,H7.out⟩

theorem lifted (os : Os) (started : os.Started) (H : Type) (enc : TypeId × Value → H) (F : Stop.Interp) :
   ReturnsInHanded {} Tryz.checked os 3 .any ((Rows.OpenSpec.upto Rows.foldSplitsSpec).pre6 enc Tryz.prog Tryz.f3 Rows.foldSplitsUptoRow.domain false) (((Rows.OpenSpec.upto Rows.foldSplitsSpec).at F).post enc Tryz.prog Tryz.f3 false true false false):=by
 refine returnsInHanded_of_cond (C:=Tryz.checked) (s:=Rows.OpenSpec.upto Rows.foldSplitsSpec) (k:=Rows.uptoSmall) rfl own13 started (by kernel_rfl) Tryz.func3
   (OpenSpec.witness (enc:=enc) (C:=Tryz.checked) (s:=Rows.OpenSpec.upto Rows.foldSplitsSpec) (k:=Rows.uptoSmall) rfl false ⟨#[],#[.agg #[.int .u64 0,.int .u64 0,.int .u64 0,.slice none 0 0,.slice none 0 0,.slice none 0 0,.slice none 0 0,.slice none 0 0,.slice none 0 0,.slice none 0 0,.slice none 0 0,.slice none 0 0],.slice none 0 0,.int .i64 0],[]⟩ 8 (by kernel_rfl) (by kernel_rfl) (by kernel_rfl)
     (x:=([.agg [.lit (.int .u64 0),.lit (.int .u64 0),.lit (.int .u64 0),.nil,.nil,.nil,.nil,.nil,.nil,.nil,.nil,.nil],.nil,.lit (.int .i64 0)],[],[])) (by kernel_rfl) rfl (by kernel_rfl)) ?_
 intro W base args ds gs before hval0 hW _ hk _
 have hval:∀(j:Nat) t v,Tryz.f3.params[j]?=some t→args[j]?=some v→Value.okWide Tryz.prog W .any base t v:=hval0
 have hW':=hW
 obtain ⟨p,q,hA0,hV,rfl,hfz,hnd⟩:=hW
 have hA:DataW.TrodAll enc Tryz.prog W 0 (fun _=>true) true Tryz.f3.params.toList args.toList ds p:=hA0
 rw [Tryz.params3] at hA hval
 obtain ⟨v0,vs0,d0,ds0,p0,q0,hargs,rfl,rfl,h0,r0⟩:=trodAll_cons hA
 obtain ⟨v1,vs1,d1,ds1,p1,q1,rfl,rfl,rfl,h1,r1⟩:=trodAll_cons r0
 obtain ⟨v2,vs2,d2,ds2,p2,q2,rfl,rfl,rfl,h2,r2⟩:=trodAll_cons r1
 obtain ⟨rfl,rfl,rfl⟩:=trodAll_nil r2
 obtain rfl:args=#[v0,v1,v2]:=by cases args;simp_all
 obtain ⟨rfl,rfl⟩:=trodVars_none hV
 have hsmall:Rows.uptoBulkAll ([d0,d1,d2]++[])≤1048576:=of_decide_eq_true hk
 simp only [List.append_nil,Rows.uptoBulkAll] at hsmall
 have k0:=h0
 have lt0:∀x∈p0,x.block<W.heap.size:=by obtain ⟨m,hm⟩:=k0;exact DataW.trod_lt m _ _ _ hm
 obtain ⟨s,rfl,hs,hkr,hzz⟩:=openStateB (m0:=1048576) (hval 0 33 v0 rfl rfl) h0
 have hsz:=hzz (by omega)
 have k1:=h1
 have lt1:∀x∈p1,x.block<W.heap.size:=by obtain ⟨m,hm⟩:=k1;exact DataW.trod_lt m _ _ _ hm
 obtain ⟨l,hl,hr,hll⟩:=openRcsB (m0:=1048576) (okWide_slice Tryz.underlying34 (hval 1 34 v1 rfl rfl)) h1
 have hlz:=hll (by omega)
 obtain ⟨n2,rfl,rfl,rfl,w2⟩:=open_int Tryz.underlying3 (hval 2 3 v2 rfl rfl) h2
 clear hA0 hval0
 have hwk:=walk (n:=n2) hs hkr (hsz.sn (k:=l.length) nlr hlz.1) hl hr (fun x hx=>by have:=hlz.2 x hx;omega) (by omega)
 refine hwk.mono fun e W' ⟨he,bel⟩=>?_
 subst he
 exact ⟨_,rfl,_,_,_,[],_,[],hW',trodAll_mk1 (shut_bool Tryz.underlying4 _),(trodAll_cons_mk (Below.trod laidOut13 (by kernel_rfl) (of_decide_eq_true (by kernel_rfl)) k0 bel lt0) (trodAll_cons_mk (Below.trod laidOut13 (by kernel_rfl) (of_decide_eq_true (by kernel_rfl)) k1 bel lt1) (trodAll_cons_mk (shut_int Tryz.underlying3 w2) trodAll_mk0))),rfl,bel.frame _,fun h=>by cases h⟩

theorem proved:Rows.FoldSplitsUptoSaid :=
 OpenClaim.holds_of_cond 3 Tryz.f3 rfl rfl rfl rfl rfl rfl rfl ⟨rfl,rfl,rfl,rfl,rfl⟩ rfl rfl rfl rfl rfl (by kernel_rfl) Tryz.func3 (by kernel_rfl)
   (of_decide_eq_true (by kernel_rfl)) (by unfold Func.isWrapper;first | (rw [if_pos (by decide +kernel)];kernel_rfl) | (rw [if_neg (by decide +kernel)];exact ⟨rfl,rfl⟩))
   (fun os started H enc _ F=>lifted os started H enc F)
end Go.Proofs.YtmfempdcpoeicaaGreat.foldSplits
