/-
  A state that was folded on is not changed by that, nor is its copy. Where what is read is of bounded bulk; the input reads as it did.
-/
import Derived.Test.YtgklemopmiabcaaGreatGLpq
import Derived.Test.YtgklemopmiabcaaGreatGArb
import Derived.Deep.CutRange
set_option maxHeartbeats 16000000
set_option maxRecDepth 100000
namespace Go.Proofs.YtgklemopmiabcaaGreat.foldKeeps
open Go.Proofs.YtgklemopmiabcaaGreat.f13
open Go.ChangeShapes Go.WideShapes Go.ChangeAt Go.WideMaps Go.WideElems Go.RowKit Go.Shelf Go.Sort
open Go.Lib hiding intOf

theorem walk {w : World} {v : Value} {s : St} {l : List Rc} (hs : Sv w s) (hkr : Kr s) (hsn : Sn l.length s) (hl : Rr 13 Rc.cs w v l) (hr : ∀ x ∈ l, Rr 4 Vr.c w x.vv x.v ∧ x.ok) (hv : ∀ x ∈ l, x.v.length * 48 ≤ 211106232528000) (hn : l.length ≤ 4611686018427387904) :
   Calls Tryz.prog 5 #[.agg s.c.toArray,v] w fun e w'=>e=.returned (.bool true)∧Below w.heap.size w w':=by
 have HL:Hid (Rr 13 Rc.cs w v l):=hl
 have HR:Hid (∀x∈l,Rr 4 Vr.c w x.vv x.v∧x.ok):=hr
 have HV:Hid (∀x∈l,x.v.length*48≤211106232528000):=hv
 have HZ:Hid (Sn l.length s.e):=hsn.to_e
 have HK:Hid (Kr s.e):=hkr.e
 have HSZ:Hid (Sz s):=hsn.sz
 have HS:Hid (Sv w s):=hs
 obtain ⟨a,cap,hva,-⟩:=id hl
 rw [hva]
 have HVA:Hid (v=.slice a l.length cap):=hva
 have CD:Hid (∀W,Below w.heap.size w W→Calls Tryz.prog 10 #[.agg s.c.toArray] W fun e w'=>∃s':St,e=.returned (.agg s'.c.toArray)∧Own W.heap.size w' s'.rows∧s'.e=s.e∧Below W.heap.size W w'):=fun W hW=>dClone_any (hs.up hW) hsn.sz
 have CC:Hid (∀W,Below w.heap.size w W→Calls Tryz.prog 18 #[.agg s.c.toArray] W fun e w'=>∃s':St,e=.returned (.agg s'.c.toArray)∧Own W.heap.size w' s'.rows∧s'.e=s.e∧Below W.heap.size W w'):=fun W hW=>Clone_any (hs.up hW) hsn.sz
 obtain ⟨⟨saDe,snDe,scDe,shDe⟩,⟨saIn,snIn,scIn,shIn⟩,⟨saTk,snTk,scTk,shTk⟩,⟨saJb,snJb,scJb,shJb⟩,⟨saTm,snTm,scTm,shTm⟩,⟨saSb,snSb,scSb,shSb⟩,⟨saKp,snKp,scKp,shKp⟩,⟨saLs,snLs,scLs,shLs⟩,⟨saMs,snMs,scMs,shMs⟩⟩:=St.cut hs
 clear hl hr hv hva hsn hkr hs
 obtain ⟨sp,sd,sm,svDe,slDe,svIn,slIn,svTk,slTk,svJb,slJb,svTm,slTm,svSb,slSb,svKp,slKp,svLs,slLs,svMs,slMs⟩:=s
 simp only at shDe shIn shTk shJb shTm shSb shKp shLs shMs
 subst shDe shIn shTk shJb shTm shSb shKp shLs shMs
 simp only [St.c] at CD CC ⊢
 obtain ⟨bs,hbs⟩:∃bs,(⟨sp,sd,sm,.slice saDe snDe scDe,slDe,.slice saIn snIn scIn,slIn,.slice saTk snTk scTk,slTk,.slice saJb snJb scJb,slJb,.slice saTm snTm scTm,slTm,.slice saSb snSb scSb,slSb,.slice saKp snKp scKp,slKp,.slice saLs snLs scLs,slLs,.slice saMs snMs scMs,slMs⟩:St).e=bs:=⟨_,rfl⟩
 have HBS:Hid ((⟨sp,sd,sm,.slice saDe snDe scDe,slDe,.slice saIn snIn scIn,slIn,.slice saTk snTk scTk,slTk,.slice saJb snJb scJb,slJb,.slice saTm snTm scTm,slTm,.slice saSb snSb scSb,slSb,.slice saKp snKp scKp,slKp,.slice saLs snLs scLs,slLs,.slice saMs snMs scMs,slMs⟩:St).e=bs):=hbs
 rw [hbs] at HZ HK CD CC
 clear hbs
 have hb0:Below w.heap.size w (w.alloc (.cells #[.int .u64 (sp:Int),.int .u64 (sd:Int),.int .u64 (sm:Int),.slice saDe snDe scDe,.slice saIn snIn scIn,.slice saTk snTk scTk,.slice saJb snJb scJb,.slice saTm snTm scTm,.slice saSb snSb scSb,.slice saKp snKp scKp,.slice saLs snLs scLs,.slice saMs snMs scMs] 33)):=(Below.refl _ w).alloc (Nat.le_refl _) _
 have HB0:Hid (Below w.heap.size w (w.alloc (.cells #[.int .u64 (sp:Int),.int .u64 (sd:Int),.int .u64 (sm:Int),.slice saDe snDe scDe,.slice saIn snIn scIn,.slice saTk snTk scTk,.slice saJb snJb scJb,.slice saTm snTm scTm,.slice saSb snSb scSb,.slice saKp snKp scKp,.slice saLs snLs scLs,.slice saMs snMs scMs] 33))∧Bc (w.alloc (.cells #[.int .u64 (sp:Int),.int .u64 (sd:Int),.int .u64 (sm:Int),.slice saDe snDe scDe,.slice saIn snIn scIn,.slice saTk snTk scTk,.slice saJb snJb scJb,.slice saTm snTm scTm,.slice saSb snSb scSb,.slice saKp snKp scKp,.slice saLs snLs scLs,.slice saMs snMs scMs] 33)) w.heap.size ⟨sp,sd,sm,.slice saDe snDe scDe,slDe,.slice saIn snIn scIn,slIn,.slice saTk snTk scTk,slTk,.slice saJb snJb scJb,slJb,.slice saTm snTm scTm,slTm,.slice saSb snSb scSb,slSb,.slice saKp snKp scKp,slKp,.slice saLs snLs scLs,slLs,.slice saMs snMs scMs,slMs⟩):=⟨hb0,Bc.new w ⟨sp,sd,sm,.slice saDe snDe scDe,slDe,.slice saIn snIn scIn,slIn,.slice saTk snTk scTk,slTk,.slice saJb snJb scJb,slJb,.slice saTm snTm scTm,slTm,.slice saSb snSb scSb,slSb,.slice saKp snKp scKp,slKp,.slice saLs snLs scLs,slLs,.slice saMs snMs scMs,slMs⟩⟩
 clear hb0
 go_enter Tryz.func5,Tryz.ntmps5
 go_upto_region 7 with (first
   | (go_at_call 9;refine (shown_any _).mono ?_;rintro e w1 ⟨rfl,b1⟩;(have B1:Hid (Below w.heap.size w w1∧Bc w1 w.heap.size ⟨sp,sd,sm,.slice saDe snDe scDe,slDe,.slice saIn snIn scIn,slIn,.slice saTk snTk scTk,slTk,.slice saJb snJb scJb,slJb,.slice saTm snTm scTm,slTm,.slice saSb snSb scSb,slSb,.slice saKp snKp scKp,slKp,.slice saLs snLs scLs,slLs,.slice saMs snMs scMs,slMs⟩):=⟨bel_of HB0.out.1 b1 (Nat.le_refl _),HB0.out.2.up b1⟩);clear b1 HB0;obtain ⟨hxx,-⟩:=Bc.cells B1.out.2;(have x0:=hxx 0 _ rfl);(have x1:=hxx 1 _ rfl);(have x2:=hxx 2 _ rfl);(have x3:=hxx 3 _ rfl);(have x4:=hxx 4 _ rfl);(have x5:=hxx 5 _ rfl);(have x6:=hxx 6 _ rfl);(have x7:=hxx 7 _ rfl);(have x8:=hxx 8 _ rfl);(have x9:=hxx 9 _ rfl);(have x10:=hxx 10 _ rfl);(have x11:=hxx 11 _ rfl);clear hxx;skip)
   | (go_at_call 10;refine (CD.out _ B1.out.1).mono ?_;rintro e w2 ⟨q,rfl,hO,he,b2⟩;obtain ⟨⟨qaDe,qnDe,qcDe,qhDe⟩,⟨qaIn,qnIn,qcIn,qhIn⟩,⟨qaTk,qnTk,qcTk,qhTk⟩,⟨qaJb,qnJb,qcJb,qhJb⟩,⟨qaTm,qnTm,qcTm,qhTm⟩,⟨qaSb,qnSb,qcSb,qhSb⟩,⟨qaKp,qnKp,qcKp,qhKp⟩,⟨qaLs,qnLs,qcLs,qhLs⟩,⟨qaMs,qnMs,qcMs,qhMs⟩⟩:=St.slices hO;obtain ⟨qp,qd,qm,qvDe,qlDe,qvIn,qlIn,qvTk,qlTk,qvJb,qlJb,qvTm,qlTm,qvSb,qlSb,qvKp,qlKp,qvLs,qlLs,qvMs,qlMs⟩:=q;simp only at qhDe qhIn qhTk qhJb qhTm qhSb qhKp qhLs qhMs;subst qhDe qhIn qhTk qhJb qhTm qhSb qhKp qhLs qhMs;simp only;(have B2:Hid (Below w.heap.size w w2∧Bc w2 w.heap.size ⟨sp,sd,sm,.slice saDe snDe scDe,slDe,.slice saIn snIn scIn,slIn,.slice saTk snTk scTk,slTk,.slice saJb snJb scJb,slJb,.slice saTm snTm scTm,slTm,.slice saSb snSb scSb,slSb,.slice saKp snKp scKp,slKp,.slice saLs snLs scLs,slLs,.slice saMs snMs scMs,slMs⟩∧Sv w2 ⟨qp,qd,qm,.slice qaDe qnDe qcDe,qlDe,.slice qaIn qnIn qcIn,qlIn,.slice qaTk qnTk qcTk,qlTk,.slice qaJb qnJb qcJb,qlJb,.slice qaTm qnTm qcTm,qlTm,.slice qaSb qnSb qcSb,qlSb,.slice qaKp qnKp qcKp,qlKp,.slice qaLs qnLs qcLs,qlLs,.slice qaMs qnMs qcMs,qlMs⟩∧(⟨qp,qd,qm,.slice qaDe qnDe qcDe,qlDe,.slice qaIn qnIn qcIn,qlIn,.slice qaTk qnTk qcTk,qlTk,.slice qaJb qnJb qcJb,qlJb,.slice qaTm qnTm qcTm,qlTm,.slice qaSb qnSb qcSb,qlSb,.slice qaKp qnKp qcKp,qlKp,.slice qaLs qnLs qcLs,qlLs,.slice qaMs qnMs qcMs,qlMs⟩:St).e=bs):=⟨bel_of B1.out.1 b2 (Nat.le_refl _),B1.out.2.up b2,Own.sv hO,he⟩);(have B3:Hid (Below w.heap.size w (w2.alloc (.cells #[.int .u64 (qp:Int),.int .u64 (qd:Int),.int .u64 (qm:Int),.slice qaDe qnDe qcDe,.slice qaIn qnIn qcIn,.slice qaTk qnTk qcTk,.slice qaJb qnJb qcJb,.slice qaTm qnTm qcTm,.slice qaSb qnSb qcSb,.slice qaKp qnKp qcKp,.slice qaLs qnLs qcLs,.slice qaMs qnMs qcMs] 33))∧Bc (w2.alloc (.cells #[.int .u64 (qp:Int),.int .u64 (qd:Int),.int .u64 (qm:Int),.slice qaDe qnDe qcDe,.slice qaIn qnIn qcIn,.slice qaTk qnTk qcTk,.slice qaJb qnJb qcJb,.slice qaTm qnTm qcTm,.slice qaSb qnSb qcSb,.slice qaKp qnKp qcKp,.slice qaLs qnLs qcLs,.slice qaMs qnMs qcMs] 33)) w.heap.size ⟨sp,sd,sm,.slice saDe snDe scDe,slDe,.slice saIn snIn scIn,slIn,.slice saTk snTk scTk,slTk,.slice saJb snJb scJb,slJb,.slice saTm snTm scTm,slTm,.slice saSb snSb scSb,slSb,.slice saKp snKp scKp,slKp,.slice saLs snLs scLs,slLs,.slice saMs snMs scMs,slMs⟩∧Sv (w2.alloc (.cells #[.int .u64 (qp:Int),.int .u64 (qd:Int),.int .u64 (qm:Int),.slice qaDe qnDe qcDe,.slice qaIn qnIn qcIn,.slice qaTk qnTk qcTk,.slice qaJb qnJb qcJb,.slice qaTm qnTm qcTm,.slice qaSb qnSb qcSb,.slice qaKp qnKp qcKp,.slice qaLs qnLs qcLs,.slice qaMs qnMs qcMs] 33)) ⟨qp,qd,qm,.slice qaDe qnDe qcDe,qlDe,.slice qaIn qnIn qcIn,qlIn,.slice qaTk qnTk qcTk,qlTk,.slice qaJb qnJb qcJb,qlJb,.slice qaTm qnTm qcTm,qlTm,.slice qaSb qnSb qcSb,qlSb,.slice qaKp qnKp qcKp,qlKp,.slice qaLs qnLs qcLs,qlLs,.slice qaMs qnMs qcMs,qlMs⟩∧Bc (w2.alloc (.cells #[.int .u64 (qp:Int),.int .u64 (qd:Int),.int .u64 (qm:Int),.slice qaDe qnDe qcDe,.slice qaIn qnIn qcIn,.slice qaTk qnTk qcTk,.slice qaJb qnJb qcJb,.slice qaTm qnTm qcTm,.slice qaSb qnSb qcSb,.slice qaKp qnKp qcKp,.slice qaLs qnLs qcLs,.slice qaMs qnMs qcMs] 33)) w2.heap.size ⟨qp,qd,qm,.slice qaDe qnDe qcDe,qlDe,.slice qaIn qnIn qcIn,qlIn,.slice qaTk qnTk qcTk,qlTk,.slice qaJb qnJb qcJb,qlJb,.slice qaTm qnTm qcTm,qlTm,.slice qaSb qnSb qcSb,qlSb,.slice qaKp qnKp qcKp,qlKp,.slice qaLs qnLs qcLs,qlLs,.slice qaMs qnMs qcMs,qlMs⟩):=⟨B2.out.1.alloc B2.out.1.size _,B2.out.2.1.up ((Below.refl _ w2).alloc (Nat.le_refl _) _),B2.out.2.2.1.up ((Below.refl _ w2).alloc (Nat.le_refl _) _),Bc.new w2 ⟨qp,qd,qm,.slice qaDe qnDe qcDe,qlDe,.slice qaIn qnIn qcIn,qlIn,.slice qaTk qnTk qcTk,qlTk,.slice qaJb qnJb qcJb,qlJb,.slice qaTm qnTm qcTm,qlTm,.slice qaSb qnSb qcSb,qlSb,.slice qaKp qnKp qcKp,qlKp,.slice qaLs qnLs qcLs,qlLs,.slice qaMs qnMs qcMs,qlMs⟩⟩);clear hO he b2 x0 x1 x2 x3 x4 x5 x6 x7 x8 x9 x10 x11 CD B1;obtain ⟨hxy,-⟩:=Bc.cells B3.out.2.1;(have y0:=hxy 0 _ rfl);(have y1:=hxy 1 _ rfl);(have y2:=hxy 2 _ rfl);(have y3:=hxy 3 _ rfl);(have y4:=hxy 4 _ rfl);(have y5:=hxy 5 _ rfl);(have y6:=hxy 6 _ rfl);(have y7:=hxy 7 _ rfl);(have y8:=hxy 8 _ rfl);(have y9:=hxy 9 _ rfl);(have y10:=hxy 10 _ rfl);(have y11:=hxy 11 _ rfl);clear hxy;skip)
   | (go_at_call 18;refine (CC.out _ B3.out.1).mono ?_;rintro e w4 ⟨k,rfl,hO,he,b4⟩;obtain ⟨⟨kaDe,knDe,kcDe,khDe⟩,⟨kaIn,knIn,kcIn,khIn⟩,⟨kaTk,knTk,kcTk,khTk⟩,⟨kaJb,knJb,kcJb,khJb⟩,⟨kaTm,knTm,kcTm,khTm⟩,⟨kaSb,knSb,kcSb,khSb⟩,⟨kaKp,knKp,kcKp,khKp⟩,⟨kaLs,knLs,kcLs,khLs⟩,⟨kaMs,knMs,kcMs,khMs⟩⟩:=St.slices hO;obtain ⟨kp,kd,km,kvDe,klDe,kvIn,klIn,kvTk,klTk,kvJb,klJb,kvTm,klTm,kvSb,klSb,kvKp,klKp,kvLs,klLs,kvMs,klMs⟩:=k;simp only at khDe khIn khTk khJb khTm khSb khKp khLs khMs;subst khDe khIn khTk khJb khTm khSb khKp khLs khMs;simp only;(have h4:Below w4.heap.size w4 (w4.alloc (.cells #[.int .u64 (kp:Int),.int .u64 (kd:Int),.int .u64 (km:Int),.slice kaDe knDe kcDe,.slice kaIn knIn kcIn,.slice kaTk knTk kcTk,.slice kaJb knJb kcJb,.slice kaTm knTm kcTm,.slice kaSb knSb kcSb,.slice kaKp knKp kcKp,.slice kaLs knLs kcLs,.slice kaMs knMs kcMs] 33)):=(Below.refl _ w4).alloc (Nat.le_refl _) _);(have B5:Hid (Below w.heap.size w (w4.alloc (.cells #[.int .u64 (kp:Int),.int .u64 (kd:Int),.int .u64 (km:Int),.slice kaDe knDe kcDe,.slice kaIn knIn kcIn,.slice kaTk knTk kcTk,.slice kaJb knJb kcJb,.slice kaTm knTm kcTm,.slice kaSb knSb kcSb,.slice kaKp knKp kcKp,.slice kaLs knLs kcLs,.slice kaMs knMs kcMs] 33))∧Bc (w4.alloc (.cells #[.int .u64 (kp:Int),.int .u64 (kd:Int),.int .u64 (km:Int),.slice kaDe knDe kcDe,.slice kaIn knIn kcIn,.slice kaTk knTk kcTk,.slice kaJb knJb kcJb,.slice kaTm knTm kcTm,.slice kaSb knSb kcSb,.slice kaKp knKp kcKp,.slice kaLs knLs kcLs,.slice kaMs knMs kcMs] 33)) w.heap.size ⟨sp,sd,sm,.slice saDe snDe scDe,slDe,.slice saIn snIn scIn,slIn,.slice saTk snTk scTk,slTk,.slice saJb snJb scJb,slJb,.slice saTm snTm scTm,slTm,.slice saSb snSb scSb,slSb,.slice saKp snKp scKp,slKp,.slice saLs snLs scLs,slLs,.slice saMs snMs scMs,slMs⟩∧Sv (w4.alloc (.cells #[.int .u64 (kp:Int),.int .u64 (kd:Int),.int .u64 (km:Int),.slice kaDe knDe kcDe,.slice kaIn knIn kcIn,.slice kaTk knTk kcTk,.slice kaJb knJb kcJb,.slice kaTm knTm kcTm,.slice kaSb knSb kcSb,.slice kaKp knKp kcKp,.slice kaLs knLs kcLs,.slice kaMs knMs kcMs] 33)) ⟨qp,qd,qm,.slice qaDe qnDe qcDe,qlDe,.slice qaIn qnIn qcIn,qlIn,.slice qaTk qnTk qcTk,qlTk,.slice qaJb qnJb qcJb,qlJb,.slice qaTm qnTm qcTm,qlTm,.slice qaSb qnSb qcSb,qlSb,.slice qaKp qnKp qcKp,qlKp,.slice qaLs qnLs qcLs,qlLs,.slice qaMs qnMs qcMs,qlMs⟩∧Bc (w4.alloc (.cells #[.int .u64 (kp:Int),.int .u64 (kd:Int),.int .u64 (km:Int),.slice kaDe knDe kcDe,.slice kaIn knIn kcIn,.slice kaTk knTk kcTk,.slice kaJb knJb kcJb,.slice kaTm knTm kcTm,.slice kaSb knSb kcSb,.slice kaKp knKp kcKp,.slice kaLs knLs kcLs,.slice kaMs knMs kcMs] 33)) w2.heap.size ⟨qp,qd,qm,.slice qaDe qnDe qcDe,qlDe,.slice qaIn qnIn qcIn,qlIn,.slice qaTk qnTk qcTk,qlTk,.slice qaJb qnJb qcJb,qlJb,.slice qaTm qnTm qcTm,qlTm,.slice qaSb qnSb qcSb,qlSb,.slice qaKp qnKp qcKp,qlKp,.slice qaLs qnLs qcLs,qlLs,.slice qaMs qnMs qcMs,qlMs⟩∧Sv (w4.alloc (.cells #[.int .u64 (kp:Int),.int .u64 (kd:Int),.int .u64 (km:Int),.slice kaDe knDe kcDe,.slice kaIn knIn kcIn,.slice kaTk knTk kcTk,.slice kaJb knJb kcJb,.slice kaTm knTm kcTm,.slice kaSb knSb kcSb,.slice kaKp knKp kcKp,.slice kaLs knLs kcLs,.slice kaMs knMs kcMs] 33)) ⟨kp,kd,km,.slice kaDe knDe kcDe,klDe,.slice kaIn knIn kcIn,klIn,.slice kaTk knTk kcTk,klTk,.slice kaJb knJb kcJb,klJb,.slice kaTm knTm kcTm,klTm,.slice kaSb knSb kcSb,klSb,.slice kaKp knKp kcKp,klKp,.slice kaLs knLs kcLs,klLs,.slice kaMs knMs kcMs,klMs⟩∧Bc (w4.alloc (.cells #[.int .u64 (kp:Int),.int .u64 (kd:Int),.int .u64 (km:Int),.slice kaDe knDe kcDe,.slice kaIn knIn kcIn,.slice kaTk knTk kcTk,.slice kaJb knJb kcJb,.slice kaTm knTm kcTm,.slice kaSb knSb kcSb,.slice kaKp knKp kcKp,.slice kaLs knLs kcLs,.slice kaMs knMs kcMs] 33)) w4.heap.size ⟨kp,kd,km,.slice kaDe knDe kcDe,klDe,.slice kaIn knIn kcIn,klIn,.slice kaTk knTk kcTk,klTk,.slice kaJb knJb kcJb,klJb,.slice kaTm knTm kcTm,klTm,.slice kaSb knSb kcSb,klSb,.slice kaKp knKp kcKp,klKp,.slice kaLs knLs kcLs,klLs,.slice kaMs knMs kcMs,klMs⟩∧(⟨kp,kd,km,.slice kaDe knDe kcDe,klDe,.slice kaIn knIn kcIn,klIn,.slice kaTk knTk kcTk,klTk,.slice kaJb knJb kcJb,klJb,.slice kaTm knTm kcTm,klTm,.slice kaSb knSb kcSb,klSb,.slice kaKp knKp kcKp,klKp,.slice kaLs knLs kcLs,klLs,.slice kaMs knMs kcMs,klMs⟩:St).e=bs):=⟨bel_of (bel_of B3.out.1 b4 (Nat.le_refl _)) h4 (Nat.le_refl _),(B3.out.2.1.up b4).up h4,(B3.out.2.2.1.up b4).up h4,(B3.out.2.2.2.up b4).up h4,(Own.sv hO).up h4,Bc.new w4 ⟨kp,kd,km,.slice kaDe knDe kcDe,klDe,.slice kaIn knIn kcIn,klIn,.slice kaTk knTk kcTk,klTk,.slice kaJb knJb kcJb,klJb,.slice kaTm knTm kcTm,klTm,.slice kaSb knSb kcSb,klSb,.slice kaKp knKp kcKp,klKp,.slice kaLs knLs kcLs,klLs,.slice kaMs knMs kcMs,klMs⟩,he⟩);clear hO he b4 h4 y0 y1 y2 y3 y4 y5 y6 y7 y8 y9 y10 y11 CC B3;obtain ⟨hxx,-⟩:=Bc.cells B5.out.2.1;(have x0:=hxx 0 _ rfl);(have x1:=hxx 1 _ rfl);(have x2:=hxx 2 _ rfl);(have x3:=hxx 3 _ rfl);(have x4:=hxx 4 _ rfl);(have x5:=hxx 5 _ rfl);(have x6:=hxx 6 _ rfl);(have x7:=hxx 7 _ rfl);(have x8:=hxx 8 _ rfl);(have x9:=hxx 9 _ rfl);(have x10:=hxx 10 _ rfl);(have x11:=hxx 11 _ rfl);clear hxx;skip))
 clear x0 x1 x2 x3 x4 x5 x6 x7 x8 x9 x10 x11
 have hz5:(w4.alloc (.cells #[.int .u64 (kp:Int),.int .u64 (kd:Int),.int .u64 (km:Int),.slice kaDe knDe kcDe,.slice kaIn knIn kcIn,.slice kaTk knTk kcTk,.slice kaJb knJb kcJb,.slice kaTm knTm kcTm,.slice kaSb knSb kcSb,.slice kaKp knKp kcKp,.slice kaLs knLs kcLs,.slice kaMs knMs kcMs] 33)).heap.size=w4.heap.size+1:=by simp
 generalize (w4.alloc (.cells #[.int .u64 (kp:Int),.int .u64 (kd:Int),.int .u64 (km:Int),.slice kaDe knDe kcDe,.slice kaIn knIn kcIn,.slice kaTk knTk kcTk,.slice kaJb knJb kcJb,.slice kaTm knTm kcTm,.slice kaSb knSb kcSb,.slice kaKp knKp kcKp,.slice kaLs knLs kcLs,.slice kaMs knMs kcMs] 33))=w5 at *
 have HP0:Hid (∃t,Lp w (w5.alloc (.cells #[.int .u64 (sp:Int),.int .u64 (sd:Int),.int .u64 (sm:Int),.slice saDe snDe scDe,.slice saIn snIn scIn,.slice saTk snTk scTk,.slice saJb snJb scJb,.slice saTm snTm scTm,.slice saSb snSb scSb,.slice saKp snKp scKp,.slice saLs snLs scLs,.slice saMs snMs scMs] 33)) (w4.heap.size+1) v l bs 0 0 (w5.alloc (.cells #[.int .u64 (sp:Int),.int .u64 (sd:Int),.int .u64 (sm:Int),.slice saDe snDe scDe,.slice saIn snIn scIn,.slice saTk snTk scTk,.slice saJb snJb scJb,.slice saTm snTm scTm,.slice saSb snSb scSb,.slice saKp snKp scKp,.slice saLs snLs scLs,.slice saMs snMs scMs] 33)) t):=by
   have h6:Below w5.heap.size w5 (w5.alloc (.cells #[.int .u64 (sp:Int),.int .u64 (sd:Int),.int .u64 (sm:Int),.slice saDe snDe scDe,.slice saIn snIn scIn,.slice saTk snTk scTk,.slice saJb snJb scJb,.slice saTm snTm scTm,.slice saSb snSb scSb,.slice saKp snKp scKp,.slice saLs snLs scLs,.slice saMs snMs scMs] 33)):=(Below.refl _ w5).alloc (Nat.le_refl _) _
   exact ⟨⟨sp,sd,sm,.slice saDe snDe scDe,slDe,.slice saIn snIn scIn,slIn,.slice saTk snTk scTk,slTk,.slice saJb snJb scJb,slJb,.slice saTm snTm scTm,slTm,.slice saSb snSb scSb,slSb,.slice saKp snKp scKp,slKp,.slice saLs snLs scLs,slLs,.slice saMs snMs scMs,slMs⟩,by rw [← hz5];exact Bc.new w5 ⟨sp,sd,sm,.slice saDe snDe scDe,slDe,.slice saIn snIn scIn,slIn,.slice saTk snTk scTk,slTk,.slice saJb snJb scJb,slJb,.slice saTm snTm scTm,slTm,.slice saSb snSb scSb,slSb,.slice saKp snKp scKp,slKp,.slice saLs snLs scLs,slLs,.slice saMs snMs scMs,slMs⟩,HS.out.up (bel_of B5.out.1 h6 (Nat.le_refl _)),HBS.out,Ch.refl _ _,bel_of B5.out.1 h6 (Nat.le_refl _)⟩
 have H5:Hid (Below w5.heap.size w5 (w5.alloc (.cells #[.int .u64 (sp:Int),.int .u64 (sd:Int),.int .u64 (sm:Int),.slice saDe snDe scDe,.slice saIn snIn scIn,.slice saTk snTk scTk,.slice saJb snJb scJb,.slice saTm snTm scTm,.slice saSb snSb scSb,.slice saKp snKp scKp,.slice saLs snLs scLs,.slice saMs snMs scMs] 33))∧w5.heap.size=w4.heap.size+1):=⟨(Below.refl _ w5).alloc (Nat.le_refl _) _,hz5⟩
 have hsb1:w.heap.size≤w4.heap.size+1:=by rw [← hz5];exact B5.out.1.size
 generalize (w5.alloc (.cells #[.int .u64 (sp:Int),.int .u64 (sd:Int),.int .u64 (sm:Int),.slice saDe snDe scDe,.slice saIn snIn scIn,.slice saTk snTk scTk,.slice saJb snJb scJb,.slice saTm snTm scTm,.slice saSb snSb scSb,.slice saKp snKp scKp,.slice saLs snLs scLs,.slice saMs snMs scMs] 33))=W1 at *
 clear hz5
 generalize w4.heap.size+1=sb at *
 go_cut [9] from 10 (fun v9 wx=>v9=.int .i64 0∧W1=wx)
 case first =>
   go_wp2
   go_meet
   case rel=>exact ⟨rfl,rfl⟩
 obtain ⟨rfl,hwc⟩:=hcut
 subst hwc
 go_wp2
 generalize (Value.agg #[.int .u64 (sp:Int),.int .u64 (sd:Int),.int .u64 (sm:Int),.slice saDe snDe scDe,.slice saIn snIn scIn,.slice saTk snTk scTk,.slice saJb snJb scJb,.slice saTm snTm scTm,.slice saSb snSb scSb,.slice saKp snKp scKp,.slice saLs snLs scLs,.slice saMs snMs scMs])=vs0
 go_loopw [9] (fun v9 wr=>∃i:Nat,v9=.int .i64 (i:Int)∧i≤l.length∧Hid (∃t,Lp w W1 sb v l bs 0 i wr t)) (fun v9 _=>l.length-(intOf v9).toNat)
 case atStart=>exact ⟨0,rfl,Nat.zero_le _,HP0.out⟩
 case round =>
   obtain ⟨i,rfl,hi,HW⟩:=hrel
   by_cases hil:i<l.length
   · have hil':(i:Int)<(l.length:Int):=by omega
     have hi0:(0:Int)≤(i:Int):=by omega
     have hcv:IntKind.u64.wrap (i:Int)=(i:Int):=by rw [IntKind.wrap_u64];omega
     have hcv2:IntKind.u64.wrap ((i:Int)+1)=(i:Int)+1:=by rw [IntKind.wrap_u64];omega
     obtain ⟨t,hL⟩:=HW.out
     have CA:Hid (∀W,Below wr.heap.size wr W→Calls Tryz.prog 11 #[.agg t.c.toArray,.int .u64 (i:Int),.agg l[i].cs.toArray] W (Apd W (fl bs 0 l (i+1)))):=fun W hW=>hL.call hil HZ.out HK.out HR.out HV.out W hW
     obtain ⟨b,off,cap',hv,hb,hc⟩:=rc_cells HL.out hil
     obtain ⟨rfl,rfl⟩:a=some ⟨b,off,none⟩∧cap=cap':=by rw [HVA.out] at hv;injection hv with e1 _ e2;exact ⟨e1,e2⟩
     obtain ⟨ra,rp,hra,-⟩:=(HR.out _ (List.getElem_mem hil)).1
     have hc0:=hc wr hL.bel
     have hrc:l[i].cs=[.int .i64 l[i].cl,.int .i64 l[i].kd,.int .u64 (l[i].fr:Int),.int .i64 l[i].tm,.int .u64 (l[i].k1:Int),.int .u64 (l[i].k2:Int),.int .u64 (l[i].k3:Int),.int .i64 l[i].n,.int .i64 l[i].m,.string (S l[i].a),.string (S l[i].b),.string (S l[i].c),.slice ra l[i].v.length rp]:=by unfold Rc.cs;rw [hra]
     rw [hra] at hc0
     rw [hrc] at CA
     obtain ⟨c0,c1,c2,c3,c4,c5,c6,c7,c8,c9,c10,c11,c12⟩:=hc0
     clear hv hc hra hrc
     generalize l[i].cl=r0 at *
     generalize l[i].kd=r1 at *
     generalize l[i].fr=r2 at *
     generalize l[i].tm=r3 at *
     generalize l[i].k1=r4 at *
     generalize l[i].k2=r5 at *
     generalize l[i].k3=r6 at *
     generalize l[i].n=r7 at *
     generalize l[i].m=r8 at *
     generalize l[i].a=r9 at *
     generalize l[i].b=r10 at *
     generalize l[i].c=r11 at *
     generalize l[i].v.length=rn at *
     simp only [Nat.add_zero] at c0
     obtain ⟨⟨taDe,tnDe,tcDe,thDe⟩,⟨taIn,tnIn,tcIn,thIn⟩,⟨taTk,tnTk,tcTk,thTk⟩,⟨taJb,tnJb,tcJb,thJb⟩,⟨taTm,tnTm,tcTm,thTm⟩,⟨taSb,tnSb,tcSb,thSb⟩,⟨taKp,tnKp,tcKp,thKp⟩,⟨taLs,tnLs,tcLs,thLs⟩,⟨taMs,tnMs,tcMs,thMs⟩⟩:=St.cut hL.sv
     obtain ⟨hx,hy⟩:=hL.box.cells
     have HL1:Hid (Lp w W1 sb v l bs 0 i wr t):=hL
     have hsb:sb<wr.heap.size:=hL.box.lt
     clear hL HW
     obtain ⟨tp,td,tm,tvDe,tlDe,tvIn,tlIn,tvTk,tlTk,tvJb,tlJb,tvTm,tlTm,tvSb,tlSb,tvKp,tlKp,tvLs,tlLs,tvMs,tlMs⟩:=t
     simp only at thDe thIn thTk thJb thTm thSb thKp thLs thMs
     subst thDe thIn thTk thJb thTm thSb thKp thLs thMs
     simp only [St.c] at CA hx
     have x0:=hx 0 _ rfl
     have x1:=hx 1 _ rfl
     have x2:=hx 2 _ rfl
     have x3:=hx 3 _ rfl
     have x4:=hx 4 _ rfl
     have x5:=hx 5 _ rfl
     have x6:=hx 6 _ rfl
     have x7:=hx 7 _ rfl
     have x8:=hx 8 _ rfl
     have x9:=hx 9 _ rfl
     have x10:=hx 10 _ rfl
     have x11:=hx 11 _ rfl
     clear hx hy H5 B5 B2 HP0 HS HSZ HBS
     go_wp2
     go_region_with (go_at_call 11;refine (CA.out _ (by first | exact Below.refl _ _ | exact (Below.refl _ _).drew)).mono ?_;rintro e w2 ⟨t2,rfl,hO,he,hb2⟩;(have HX:Hid (Own wr.heap.size w2 t2.rows∧t2.e=fl bs 0 l (i+1)∧Below wr.heap.size wr w2):=⟨hO,he,⟨hb2.os,hb2.tape,hb2.output,hb2.size,hb2.block⟩⟩);obtain ⟨⟨uaDe,unDe,ucDe,uhDe⟩,⟨uaIn,unIn,ucIn,uhIn⟩,⟨uaTk,unTk,ucTk,uhTk⟩,⟨uaJb,unJb,ucJb,uhJb⟩,⟨uaTm,unTm,ucTm,uhTm⟩,⟨uaSb,unSb,ucSb,uhSb⟩,⟨uaKp,unKp,ucKp,uhKp⟩,⟨uaLs,unLs,ucLs,uhLs⟩,⟨uaMs,unMs,ucMs,uhMs⟩⟩:=St.slices hO;obtain ⟨hx2,hy2⟩:=(HL1.out.box.up HX.out.2.2).cells;obtain ⟨up,ud,um,uvDe,ulDe,uvIn,ulIn,uvTk,ulTk,uvJb,ulJb,uvTm,ulTm,uvSb,ulSb,uvKp,ulKp,uvLs,ulLs,uvMs,ulMs⟩:=t2;simp only at uhDe uhIn uhTk uhJb uhTm uhSb uhKp uhLs uhMs;subst uhDe uhIn uhTk uhJb uhTm uhSb uhKp uhLs uhMs;simp only [St.c] at hx2 ⊢;(have z0:=hx2 0 _ rfl);(have g0:=hy2 0);(have z1:=hx2 1 _ rfl);(have g1:=hy2 1);(have z2:=hx2 2 _ rfl);(have g2:=hy2 2);(have z3:=hx2 3 _ rfl);(have g3:=hy2 3);(have z4:=hx2 4 _ rfl);(have g4:=hy2 4);(have z5:=hx2 5 _ rfl);(have g5:=hy2 5);(have z6:=hx2 6 _ rfl);(have g6:=hy2 6);(have z7:=hx2 7 _ rfl);(have g7:=hy2 7);(have z8:=hx2 8 _ rfl);(have g8:=hy2 8);(have z9:=hx2 9 _ rfl);(have g9:=hy2 9);(have z10:=hx2 10 _ rfl);(have g10:=hy2 10);(have z11:=hx2 11 _ rfl);(have g11:=hy2 11);clear hO he hb2 hx2 hy2 CA x0 x1 x2 x3 x4 x5 x6 x7 x8 x9 x10 x11)
     all_goals
       have HL3:Hid (Lp w W1 sb v l bs 0 (i+1) ((((((((((((w2.setCell ⟨sb,0,none⟩ (.int .u64 (up:Int))).setCell ⟨sb,1,none⟩ (.int .u64 (ud:Int))).setCell ⟨sb,2,none⟩ (.int .u64 (um:Int))).setCell ⟨sb,3,none⟩ (.slice uaDe unDe ucDe)).setCell ⟨sb,4,none⟩ (.slice uaIn unIn ucIn)).setCell ⟨sb,5,none⟩ (.slice uaTk unTk ucTk)).setCell ⟨sb,6,none⟩ (.slice uaJb unJb ucJb)).setCell ⟨sb,7,none⟩ (.slice uaTm unTm ucTm)).setCell ⟨sb,8,none⟩ (.slice uaSb unSb ucSb)).setCell ⟨sb,9,none⟩ (.slice uaKp unKp ucKp)).setCell ⟨sb,10,none⟩ (.slice uaLs unLs ucLs)).setCell ⟨sb,11,none⟩ (.slice uaMs unMs ucMs)) ⟨up,ud,um,.slice uaDe unDe ucDe,ulDe,.slice uaIn unIn ucIn,ulIn,.slice uaTk unTk ucTk,ulTk,.slice uaJb unJb ucJb,ulJb,.slice uaTm unTm ucTm,ulTm,.slice uaSb unSb ucSb,ulSb,.slice uaKp unKp ucKp,ulKp,.slice uaLs unLs ucLs,ulLs,.slice uaMs unMs ucMs,ulMs⟩):=by
         have h:=HL1.out.next hsb1 HX.out.1 HX.out.2.1 HX.out.2.2
         unfold set12 at h
         exact h
       clear z0 g0 z1 g1 z2 g2 z3 g3 z4 g4 z5 g5 z6 g6 z7 g7 z8 g8 z9 g9 z10 g10 z11 g11 c0 c1 c2 c3 c4 c5 c6 c7 c8 c9 c10 c11 c12 HL1 HX
       generalize ((((((((((((w2.setCell ⟨sb,0,none⟩ (.int .u64 (up:Int))).setCell ⟨sb,1,none⟩ (.int .u64 (ud:Int))).setCell ⟨sb,2,none⟩ (.int .u64 (um:Int))).setCell ⟨sb,3,none⟩ (.slice uaDe unDe ucDe)).setCell ⟨sb,4,none⟩ (.slice uaIn unIn ucIn)).setCell ⟨sb,5,none⟩ (.slice uaTk unTk ucTk)).setCell ⟨sb,6,none⟩ (.slice uaJb unJb ucJb)).setCell ⟨sb,7,none⟩ (.slice uaTm unTm ucTm)).setCell ⟨sb,8,none⟩ (.slice uaSb unSb ucSb)).setCell ⟨sb,9,none⟩ (.slice uaKp unKp ucKp)).setCell ⟨sb,10,none⟩ (.slice uaLs unLs ucLs)).setCell ⟨sb,11,none⟩ (.slice uaMs unMs ucMs))=W3 at *
       go_wp2
       go_roundw
       case rel=>exact ⟨i+1,by simp,by omega,⟨_,HL3.out⟩⟩
       case measure=>simp [intOf];omega
   · have hil':¬(i:Int)<(l.length:Int):=by omega
     as_aux_lemma =>
     obtain ⟨t,hL⟩:=HW.out
     have ho:=hL.old (w5:=w5) H5.out.2 H5.out.1
     have hq:(⟨sp,sd,sm,.slice saDe snDe scDe,slDe,.slice saIn snIn scIn,slIn,.slice saTk snTk scTk,slTk,.slice saJb snJb scJb,slJb,.slice saTm snTm scTm,slTm,.slice saSb snSb scSb,slSb,.slice saKp snKp scKp,slKp,.slice saLs snLs scLs,slLs,.slice saMs snMs scMs,slMs⟩:St).e=(⟨qp,qd,qm,.slice qaDe qnDe qcDe,qlDe,.slice qaIn qnIn qcIn,qlIn,.slice qaTk qnTk qcTk,qlTk,.slice qaJb qnJb qcJb,qlJb,.slice qaTm qnTm qcTm,qlTm,.slice qaSb qnSb qcSb,qlSb,.slice qaKp qnKp qcKp,qlKp,.slice qaLs qnLs qcLs,qlLs,.slice qaMs qnMs qcMs,qlMs⟩:St).e:=HBS.out.trans B2.out.2.2.2.symm
     have hk:(⟨kp,kd,km,.slice kaDe knDe kcDe,klDe,.slice kaIn knIn kcIn,klIn,.slice kaTk knTk kcTk,klTk,.slice kaJb knJb kcJb,klJb,.slice kaTm knTm kcTm,klTm,.slice kaSb knSb kcSb,klSb,.slice kaKp knKp kcKp,klKp,.slice kaLs knLs kcLs,klLs,.slice kaMs knMs kcMs,klMs⟩:St).e=(⟨qp,qd,qm,.slice qaDe qnDe qcDe,qlDe,.slice qaIn qnIn qcIn,qlIn,.slice qaTk qnTk qcTk,qlTk,.slice qaJb qnJb qcJb,qlJb,.slice qaTm qnTm qcTm,qlTm,.slice qaSb qnSb qcSb,qlSb,.slice qaKp qnKp qcKp,qlKp,.slice qaLs qnLs qcLs,qlLs,.slice qaMs qnMs qcMs,qlMs⟩:St).e:=B5.out.2.2.2.2.2.2.trans B2.out.2.2.2.symm
     have hszk:Sz ⟨kp,kd,km,.slice kaDe knDe kcDe,klDe,.slice kaIn knIn kcIn,klIn,.slice kaTk knTk kcTk,klTk,.slice kaJb knJb kcJb,klJb,.slice kaTm knTm kcTm,klTm,.slice kaSb knSb kcSb,klSb,.slice kaKp knKp kcKp,klKp,.slice kaLs knLs kcLs,klLs,.slice kaMs knMs kcMs,klMs⟩:=Sz.of_e (by rw [B5.out.2.2.2.2.2.2];exact HZ.out.sz)
     have CS1:Hid (∀W,Below wr.heap.size wr W→Calls Tryz.prog 13 #[.agg (⟨sp,sd,sm,.slice saDe snDe scDe,slDe,.slice saIn snIn scIn,slIn,.slice saTk snTk scTk,slTk,.slice saJb snJb scJb,slJb,.slice saTm snTm scTm,slTm,.slice saSb snSb scSb,slSb,.slice saKp snKp scKp,slKp,.slice saLs snLs scLs,slLs,.slice saMs snMs scMs,slMs⟩:St).c.toArray,.agg (⟨qp,qd,qm,.slice qaDe qnDe qcDe,qlDe,.slice qaIn qnIn qcIn,qlIn,.slice qaTk qnTk qcTk,qlTk,.slice qaJb qnJb qcJb,qlJb,.slice qaTm qnTm qcTm,qlTm,.slice qaSb qnSb qcSb,qlSb,.slice qaKp qnKp qcKp,qlKp,.slice qaLs qnLs qcLs,qlLs,.slice qaMs qnMs qcMs,qlMs⟩:St).c.toArray] W fun e w'=>e=.returned (.bool true)∧Below W.heap.size W w'):=fun W hW=>dSame_yes (HS.out.up (bel_of hL.bel hW (Nat.le_refl _))) ((B5.out.2.2.1.up ho).up hW) hq HSZ.out
     have CS2:Hid (∀W,Below wr.heap.size wr W→Calls Tryz.prog 13 #[.agg (⟨kp,kd,km,.slice kaDe knDe kcDe,klDe,.slice kaIn knIn kcIn,klIn,.slice kaTk knTk kcTk,klTk,.slice kaJb knJb kcJb,klJb,.slice kaTm knTm kcTm,klTm,.slice kaSb knSb kcSb,klSb,.slice kaKp knKp kcKp,klKp,.slice kaLs knLs kcLs,klLs,.slice kaMs knMs kcMs,klMs⟩:St).c.toArray,.agg (⟨qp,qd,qm,.slice qaDe qnDe qcDe,qlDe,.slice qaIn qnIn qcIn,qlIn,.slice qaTk qnTk qcTk,qlTk,.slice qaJb qnJb qcJb,qlJb,.slice qaTm qnTm qcTm,qlTm,.slice qaSb qnSb qcSb,qlSb,.slice qaKp qnKp qcKp,qlKp,.slice qaLs qnLs qcLs,qlLs,.slice qaMs qnMs qcMs,qlMs⟩:St).c.toArray] W fun e w'=>e=.returned (.bool true)∧Below W.heap.size W w'):=fun W hW=>dSame_yes ((B5.out.2.2.2.2.1.up ho).up hW) ((B5.out.2.2.1.up ho).up hW) hk hszk
     have HBx:Hid (Bc wr w.heap.size ⟨sp,sd,sm,.slice saDe snDe scDe,slDe,.slice saIn snIn scIn,slIn,.slice saTk snTk scTk,slTk,.slice saJb snJb scJb,slJb,.slice saTm snTm scTm,slTm,.slice saSb snSb scSb,slSb,.slice saKp snKp scKp,slKp,.slice saLs snLs scLs,slLs,.slice saMs snMs scMs,slMs⟩∧Bc wr w2.heap.size ⟨qp,qd,qm,.slice qaDe qnDe qcDe,qlDe,.slice qaIn qnIn qcIn,qlIn,.slice qaTk qnTk qcTk,qlTk,.slice qaJb qnJb qcJb,qlJb,.slice qaTm qnTm qcTm,qlTm,.slice qaSb qnSb qcSb,qlSb,.slice qaKp qnKp qcKp,qlKp,.slice qaLs qnLs qcLs,qlLs,.slice qaMs qnMs qcMs,qlMs⟩∧Bc wr w4.heap.size ⟨kp,kd,km,.slice kaDe knDe kcDe,klDe,.slice kaIn knIn kcIn,klIn,.slice kaTk knTk kcTk,klTk,.slice kaJb knJb kcJb,klJb,.slice kaTm knTm kcTm,klTm,.slice kaSb knSb kcSb,klSb,.slice kaKp knKp kcKp,klKp,.slice kaLs knLs kcLs,klLs,.slice kaMs knMs kcMs,klMs⟩):=⟨B5.out.2.1.up ho,B5.out.2.2.2.1.up ho,B5.out.2.2.2.2.2.1.up ho⟩
     have HE:Hid (Below w.heap.size w wr):=hL.bel
     clear hq hk hszk ho hL HW HP0 H5 B5 B2 HS HSZ HBS HZ HK HL HR HV HVA
     simp only [St.c] at CS1 CS2
     obtain ⟨hxx,-⟩:=Bc.cells HBx.out.1
     (have x0:=hxx 0 _ rfl)
     (have x1:=hxx 1 _ rfl)
     (have x2:=hxx 2 _ rfl)
     (have x3:=hxx 3 _ rfl)
     (have x4:=hxx 4 _ rfl)
     (have x5:=hxx 5 _ rfl)
     (have x6:=hxx 6 _ rfl)
     (have x7:=hxx 7 _ rfl)
     (have x8:=hxx 8 _ rfl)
     (have x9:=hxx 9 _ rfl)
     (have x10:=hxx 10 _ rfl)
     (have x11:=hxx 11 _ rfl)
     clear hxx
     obtain ⟨hxy,-⟩:=Bc.cells HBx.out.2.1
     (have y0:=hxy 0 _ rfl)
     (have y1:=hxy 1 _ rfl)
     (have y2:=hxy 2 _ rfl)
     (have y3:=hxy 3 _ rfl)
     (have y4:=hxy 4 _ rfl)
     (have y5:=hxy 5 _ rfl)
     (have y6:=hxy 6 _ rfl)
     (have y7:=hxy 7 _ rfl)
     (have y8:=hxy 8 _ rfl)
     (have y9:=hxy 9 _ rfl)
     (have y10:=hxy 10 _ rfl)
     (have y11:=hxy 11 _ rfl)
     clear hxy
     go_wp2_with (first
       | (go_at_call 13;refine (CS1.out _ (Below.refl _ _)).mono ?_;rintro e w6 ⟨rfl,b6⟩;clear CS1 x0 x1 x2 x3 x4 x5 x6 x7 x8 x9 x10 x11 y0 y1 y2 y3 y4 y5 y6 y7 y8 y9 y10 y11;(have B6:Hid (Below wr.heap.size wr w6):=b6);(have H6:Hid (Below w.heap.size w w6):=bel_of HE.out b6 (Nat.le_refl _));obtain ⟨hxx,-⟩:=Bc.cells (HBx.out.2.2.up b6);(have x0:=hxx 0 _ rfl);(have x1:=hxx 1 _ rfl);(have x2:=hxx 2 _ rfl);(have x3:=hxx 3 _ rfl);(have x4:=hxx 4 _ rfl);(have x5:=hxx 5 _ rfl);(have x6:=hxx 6 _ rfl);(have x7:=hxx 7 _ rfl);(have x8:=hxx 8 _ rfl);(have x9:=hxx 9 _ rfl);(have x10:=hxx 10 _ rfl);(have x11:=hxx 11 _ rfl);clear hxx;obtain ⟨hxy,-⟩:=Bc.cells (HBx.out.2.1.up b6);(have y0:=hxy 0 _ rfl);(have y1:=hxy 1 _ rfl);(have y2:=hxy 2 _ rfl);(have y3:=hxy 3 _ rfl);(have y4:=hxy 4 _ rfl);(have y5:=hxy 5 _ rfl);(have y6:=hxy 6 _ rfl);(have y7:=hxy 7 _ rfl);(have y8:=hxy 8 _ rfl);(have y9:=hxy 9 _ rfl);(have y10:=hxy 10 _ rfl);(have y11:=hxy 11 _ rfl);clear hxy;clear b6 HBx HE)
       | (go_at_call 13;refine (CS2.out _ B6.out).mono ?_;rintro e w7 ⟨rfl,b7⟩;(have H7:Hid (Below w.heap.size w w7):=bel_of H6.out b7 (Nat.le_refl _));clear b7 CS2))
     go_ret
     exact ⟨rfl,H7.out⟩

theorem lifted (os : Os) (started : os.Started) (H : Type) (enc : TypeId × Value → H) (F : Stop.Interp) :
   ReturnsInHanded {} Tryz.checked os 5 .any ((Rows.OpenSpec.upto Rows.foldKeepsSpec).pre6 enc Tryz.prog Tryz.f5 Rows.foldKeepsUptoRow.domain false) (((Rows.OpenSpec.upto Rows.foldKeepsSpec).at F).post enc Tryz.prog Tryz.f5 false true false false):=by
 refine returnsInHanded_of_cond (C:=Tryz.checked) (s:=Rows.OpenSpec.upto Rows.foldKeepsSpec) (k:=Rows.uptoSmall) rfl own13 started (by kernel_rfl) Tryz.func5
   (OpenSpec.witness (enc:=enc) (C:=Tryz.checked) (s:=Rows.OpenSpec.upto Rows.foldKeepsSpec) (k:=Rows.uptoSmall) rfl false ⟨#[],#[.agg #[.int .u64 0,.int .u64 0,.int .u64 0,.slice none 0 0,.slice none 0 0,.slice none 0 0,.slice none 0 0,.slice none 0 0,.slice none 0 0,.slice none 0 0,.slice none 0 0,.slice none 0 0],.slice none 0 0],[]⟩ 8 (by kernel_rfl) (by kernel_rfl) (by kernel_rfl)
     (x:=([.agg [.lit (.int .u64 0),.lit (.int .u64 0),.lit (.int .u64 0),.nil,.nil,.nil,.nil,.nil,.nil,.nil,.nil,.nil],.nil],[],[])) (by kernel_rfl) rfl (by kernel_rfl)) ?_
 intro W base args ds gs before hval0 hW _ hk _
 have hval:∀(j:Nat) t v,Tryz.f5.params[j]?=some t→args[j]?=some v→Value.okWide Tryz.prog W .any base t v:=hval0
 have hW':=hW
 obtain ⟨p,q,hA0,hV,rfl,hfz,hnd⟩:=hW
 have hA:DataW.TrodAll enc Tryz.prog W 0 (fun _=>true) true Tryz.f5.params.toList args.toList ds p:=hA0
 rw [Tryz.params5] at hA hval
 obtain ⟨v0,vs0,d0,ds0,p0,q0,hargs,rfl,rfl,h0,r0⟩:=trodAll_cons hA
 obtain ⟨v1,vs1,d1,ds1,p1,q1,rfl,rfl,rfl,h1,r1⟩:=trodAll_cons r0
 obtain ⟨rfl,rfl,rfl⟩:=trodAll_nil r1
 obtain rfl:args=#[v0,v1]:=by cases args;simp_all
 obtain ⟨rfl,rfl⟩:=trodVars_none hV
 have hsmall:Rows.uptoBulkAll ([d0,d1]++[])≤1048576:=of_decide_eq_true hk
 simp only [List.append_nil,Rows.uptoBulkAll] at hsmall
 have k0:=h0
 have lt0:∀x∈p0,x.block<W.heap.size:=by obtain ⟨m,hm⟩:=k0;exact DataW.trod_lt m _ _ _ hm
 obtain ⟨s,rfl,hs,hkr,hzz⟩:=openStateB (m0:=1048576) (hval 0 33 v0 rfl rfl) h0
 have hsz:=hzz (by omega)
 have k1:=h1
 have lt1:∀x∈p1,x.block<W.heap.size:=by obtain ⟨m,hm⟩:=k1;exact DataW.trod_lt m _ _ _ hm
 obtain ⟨l,hl,hr,hll⟩:=openRcsB (m0:=1048576) (okWide_slice Tryz.underlying34 (hval 1 34 v1 rfl rfl)) h1
 have hlz:=hll (by omega)
 clear hA0 hval0
 have hwk:=walk hs hkr (hsz.sn (k:=l.length) (Nat.le_refl _) hlz.1) hl hr (fun x hx=>by have:=hlz.2 x hx;omega) (by omega)
 refine hwk.mono fun e W' ⟨he,bel⟩=>?_
 subst he
 exact ⟨_,rfl,_,_,_,[],_,[],hW',trodAll_mk1 (shut_bool Tryz.underlying4 _),(trodAll_cons_mk (Below.trod laidOut13 (by kernel_rfl) (of_decide_eq_true (by kernel_rfl)) k0 bel lt0) (trodAll_cons_mk (Below.trod laidOut13 (by kernel_rfl) (of_decide_eq_true (by kernel_rfl)) k1 bel lt1) trodAll_mk0)),rfl,bel.frame _,fun h=>by cases h⟩

theorem proved:Rows.FoldKeepsUptoSaid :=
 OpenClaim.holds_of_cond 5 Tryz.f5 rfl rfl rfl rfl rfl rfl rfl ⟨rfl,rfl,rfl,rfl,rfl⟩ rfl rfl rfl rfl rfl (by kernel_rfl) Tryz.func5 (by kernel_rfl)
   (of_decide_eq_true (by kernel_rfl)) (by unfold Func.isWrapper;first | (rw [if_pos (by decide +kernel)];kernel_rfl) | (rw [if_neg (by decide +kernel)];exact ⟨rfl,rfl⟩))
   (fun os started H enc _ F=>lifted os started H enc F)
end Go.Proofs.YtgklemopmiabcaaGreat.foldKeeps
