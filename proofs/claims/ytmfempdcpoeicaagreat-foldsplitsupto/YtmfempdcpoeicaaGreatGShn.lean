/-
  The document's example.
-/
import Derived.Test.YtmfempdcpoeicaaGreatF13Tok
set_option maxHeartbeats 4000000
set_option maxRecDepth 100000
namespace Go.Proofs.YtmfempdcpoeicaaGreat.f13
open Go.RowKit Go.Shelf Go.Sort
open Go.Lib hiding intOf

theorem Token_any {w : World} {s : St} (key : Nat) (h : Sv w s) (hn : s.tokens.length ≤ 4611686018427387904) :
   Calls Tryz.prog 9 #[.agg s.c.toArray,.int .u64 (key:Int)] w fun e w'=>e=.returned (.tuple #[.agg (Tk.c (fstTk (fun x=>x.kk==key) s.tokens).1).toArray,.bool (fstTk (fun x=>x.kk==key) s.tokens).2])∧Below w.heap.size w w':=by
 obtain ⟨pos,done,made,vDe,procs,vIn,insts,vTk,tokens,vJb,jobs,vTm,timers,vSb,subs,vKp,kept,vLs,listed,vMs,msgs⟩:=s
 obtain ⟨aDe,cDe,hs,-⟩:=id h.rDe
 simp only at hs
 subst hs
 obtain ⟨aIn,cIn,hs,-⟩:=id h.rIn
 simp only at hs
 subst hs
 obtain ⟨aTk,cTk,hs,-⟩:=id h.rTk
 simp only at hs
 subst hs
 obtain ⟨aJb,cJb,hs,-⟩:=id h.rJb
 simp only at hs
 subst hs
 obtain ⟨aTm,cTm,hs,-⟩:=id h.rTm
 simp only at hs
 subst hs
 obtain ⟨aSb,cSb,hs,-⟩:=id h.rSb
 simp only at hs
 subst hs
 obtain ⟨aKp,cKp,hs,-⟩:=id h.rKp
 simp only at hs
 subst hs
 obtain ⟨aLs,cLs,hs,-⟩:=id h.rLs
 simp only at hs
 subst hs
 obtain ⟨aMs,cMs,hs,-⟩:=id h.rMs
 simp only at hs
 subst hs
 simp only [St.c] at hn ⊢
 have hb0:Below w.heap.size w ((w.alloc (.cells #[.int .u64 (pos:Int),.int .u64 (done:Int),.int .u64 (made:Int),.slice aDe procs.length cDe,.slice aIn insts.length cIn,.slice aTk tokens.length cTk,.slice aJb jobs.length cJb,.slice aTm timers.length cTm,.slice aSb subs.length cSb,.slice aKp kept.length cKp,.slice aLs listed.length cLs,.slice aMs msgs.length cMs] 33)).alloc (.cells #[.int .u64 0,.int .u64 0,.int .u64 0,.int .i64 0,.int .i64 0,.string ⟨#[]⟩] 44)):=((Below.refl _ w).alloc nlr _).alloc (by simp) _
 have hrt:=h.rTk
 simp only at hrt
 have ekO:Ent0 68:=enters_of Tryz.func68 (by kernel_rfl) rfl
 have CF:Hid (∀W caps,Below w.heap.size w W→(∀x:Tk,Say (fun _=>False) W 68 caps #[.agg (Tk.c x).toArray] (x.kk==key))→Calls Tryz.prog 38 #[.slice aTk tokens.length cTk,.func (.func 68) #[] caps] W fun e w'=>e=.returned (.tuple #[.agg (Tk.c (fstTk (fun x=>x.kk==key) tokens).1).toArray,.bool (fstTk (fun x=>x.kk==key) tokens).2])∧Below W.heap.size W w'):=fun W caps hW hs=>firstTk_any (X:=fun _=>False) (fun x=>x.kk==key) (hrt.up hW) hn ekO (fun x _=>hs x)
 have CO:=fun W=>ofTk_any key W
 have HS:Hid (∀W,Below ((w.alloc (.cells #[.int .u64 (pos:Int),.int .u64 (done:Int),.int .u64 (made:Int),.slice aDe procs.length cDe,.slice aIn insts.length cIn,.slice aTk tokens.length cTk,.slice aJb jobs.length cJb,.slice aTm timers.length cTm,.slice aSb subs.length cSb,.slice aKp kept.length cKp,.slice aLs listed.length cLs,.slice aMs msgs.length cMs] 33)).alloc (.cells #[.int .u64 0,.int .u64 0,.int .u64 0,.int .i64 0,.int .i64 0,.string ⟨#[]⟩] 44)).heap.size ((w.alloc (.cells #[.int .u64 (pos:Int),.int .u64 (done:Int),.int .u64 (made:Int),.slice aDe procs.length cDe,.slice aIn insts.length cIn,.slice aTk tokens.length cTk,.slice aJb jobs.length cJb,.slice aTm timers.length cTm,.slice aSb subs.length cSb,.slice aKp kept.length cKp,.slice aLs listed.length cLs,.slice aMs msgs.length cMs] 33)).alloc (.cells #[.int .u64 0,.int .u64 0,.int .u64 0,.int .i64 0,.int .i64 0,.string ⟨#[]⟩] 44)) W→W.cell? ⟨w.heap.size,5,none⟩=some (.slice aTk tokens.length cTk)∧W.heap[w.heap.size+1]?=some (.cells #[.int .u64 0,.int .u64 0,.int .u64 0,.int .i64 0,.int .i64 0,.string ⟨#[]⟩] 44 (0,0))∧Below w.heap.size w W∧w.heap.size+1<W.heap.size):=by
   intro W hW
   have e0:((w.alloc (.cells #[.int .u64 (pos:Int),.int .u64 (done:Int),.int .u64 (made:Int),.slice aDe procs.length cDe,.slice aIn insts.length cIn,.slice aTk tokens.length cTk,.slice aJb jobs.length cJb,.slice aTm timers.length cTm,.slice aSb subs.length cSb,.slice aKp kept.length cKp,.slice aLs listed.length cLs,.slice aMs msgs.length cMs] 33)).alloc (.cells #[.int .u64 0,.int .u64 0,.int .u64 0,.int .i64 0,.int .i64 0,.string ⟨#[]⟩] 44)).heap.size=w.heap.size+2:=by simp
   have hWs:=hW.size
   rw [e0] at hW hWs
   refine ⟨(hW.cell (p:=⟨w.heap.size,5,none⟩) (by simp only;omega)).trans (by go_simp),(hW.block _ (by omega)).trans ?_,hb0.trans (hW.mono (by omega)),by omega⟩
   have:=heap_alloc_new (w.alloc (.cells #[.int .u64 (pos:Int),.int .u64 (done:Int),.int .u64 (made:Int),.slice aDe procs.length cDe,.slice aIn insts.length cIn,.slice aTk tokens.length cTk,.slice aJb jobs.length cJb,.slice aTm timers.length cTm,.slice aSb subs.length cSb,.slice aKp kept.length cKp,.slice aLs listed.length cLs,.slice aMs msgs.length cMs] 33)) (.cells #[.int .u64 0,.int .u64 0,.int .u64 0,.int .i64 0,.int .i64 0,.string ⟨#[]⟩] 44)
   rw [World.size_alloc] at this
   exact this
 simp only [kU] at CO
 generalize fstTk (fun x=>x.kk==key) tokens=p at *
 obtain ⟨⟨x0,x1,x2,x3,x4,x5⟩,b⟩:=p
 simp only [Tk.c] at CF ⊢
 obtain ⟨m5,-⟩:=HS.out _ brf
 clear h hb0 hrt ekO
 go_enter Tryz.func9,Tryz.ntmps9
 go_wp2
 generalize ((w.alloc (.cells #[.int .u64 (pos:Int),.int .u64 (done:Int),.int .u64 (made:Int),.slice aDe procs.length cDe,.slice aIn insts.length cIn,.slice aTk tokens.length cTk,.slice aJb jobs.length cJb,.slice aTm timers.length cTm,.slice aSb subs.length cSb,.slice aKp kept.length cKp,.slice aLs listed.length cLs,.slice aMs msgs.length cMs] 33)).alloc (.cells #[.int .u64 0,.int .u64 0,.int .u64 0,.int .i64 0,.int .i64 0,.string ⟨#[]⟩] 44))=W1 at *
 go_region_with (first
   | (go_at_call 39;refine (CO _).mono ?_;rintro e w1 ⟨caps,rfl,hsay,hb1⟩;(have hX:Below W1.heap.size W1 w1:=(Below.refl _ W1).drew.trans (hb1.mono nlr));obtain ⟨n5,-,hbw,-⟩:=HS.out w1 hX;(have CA:=CF.out w1 caps hbw (fun x=>hsay (fun _=>False) (fun _ e=>e.elim) x));(have BX:Hid (Below W1.heap.size W1 w1):=hX);clear hsay hb1 CO CF hbw hX)
   | (go_at_call 38;refine CA.mono ?_;rintro e w2 ⟨rfl,hb2⟩;obtain ⟨-,hob,hbw2,hl2⟩:=HS.out w2 (bel_of BX.out hb2 nlr);(have f0:w2.frozen? ⟨w.heap.size+1,0,none⟩=false:=by simp [World.frozen?,hob]);(have o0:w2.cell? ⟨w.heap.size+1,0,none⟩=some (.int .u64 0):=by simp [World.cell?,hob]);(have f1:w2.frozen? ⟨w.heap.size+1,1,none⟩=false:=by simp [World.frozen?,hob]);(have o1:w2.cell? ⟨w.heap.size+1,1,none⟩=some (.int .u64 0):=by simp [World.cell?,hob]);(have f2:w2.frozen? ⟨w.heap.size+1,2,none⟩=false:=by simp [World.frozen?,hob]);(have o2:w2.cell? ⟨w.heap.size+1,2,none⟩=some (.int .u64 0):=by simp [World.cell?,hob]);(have f3:w2.frozen? ⟨w.heap.size+1,3,none⟩=false:=by simp [World.frozen?,hob]);(have o3:w2.cell? ⟨w.heap.size+1,3,none⟩=some (.int .i64 0):=by simp [World.cell?,hob]);(have f4:w2.frozen? ⟨w.heap.size+1,4,none⟩=false:=by simp [World.frozen?,hob]);(have o4:w2.cell? ⟨w.heap.size+1,4,none⟩=some (.int .i64 0):=by simp [World.cell?,hob]);(have f5:w2.frozen? ⟨w.heap.size+1,5,none⟩=false:=by simp [World.frozen?,hob]);(have o5:w2.cell? ⟨w.heap.size+1,5,none⟩=some (.string ⟨#[]⟩):=by simp [World.cell?,hob]);(have HO:Hid _:=hob);(have HB:Hid (Below w.heap.size w w2):=hbw2);clear hob hbw2 hb2 CA))
 all_goals
   go_wp2
   have hfin:Below w.heap.size w (setTk w2 (w.heap.size+1) (.int .u64 (x0:Int)) (.int .u64 (x1:Int)) (.int .u64 (x2:Int)) (.int .i64 x3) (.int .i64 x4) (.string (S x5))):=HB.out.trans ((setTk_ch w2 (w.heap.size+1) (.int .u64 (x0:Int)) (.int .u64 (x1:Int)) (.int .u64 (x2:Int)) (.int .i64 x3) (.int .i64 x4) (.string (S x5))).below HB.out.size (fun g hg e=>by omega))
   refine bodyPost_ret (ret_two rfl _ _ (w.heap.size+1) 44 #[.int .u64 (x0:Int),.int .u64 (x1:Int),.int .u64 (x2:Int),.int .i64 x3,.int .i64 x4,.string (S x5)] (0,0) _ rfl (setTk_obj (W:=w2) (.int .u64 (x0:Int)) (.int .u64 (x1:Int)) (.int .u64 (x2:Int)) (.int .i64 x3) (.int .i64 x4) (.string (S x5)) HO.out) Tryz.underlying44 rfl sizeTk) rfl ?_
   exact ⟨rfl,hfin⟩

theorem Sz.of_e {s:St} (h:Sz s.e):Sz s:=by
 refine ⟨h.nDe,by simpa [St.e] using h.nIn,h.nTk,h.nJb,h.nTm,h.nSb,h.nKp,by simpa [St.e] using h.nLs,by simpa [St.e] using h.nMs,fun x hx=>?_,fun x hx=>?_,fun x hx=>?_,fun x hx=>?_⟩
 · exact h.mIn x.e (List.mem_map_of_mem hx)
 · exact h.mLs x.e (List.mem_map_of_mem hx)
 · exact h.mMs x.e (List.mem_map_of_mem hx)
 · exact h.kMs x.e (List.mem_map_of_mem hx)
def s0:St:=⟨0,0,0,.slice none 0 0,[],.slice none 0 0,[],.slice none 0 0,[],.slice none 0 0,[],.slice none 0 0,[],.slice none 0 0,[],.slice none 0 0,[],.slice none 0 0,[],.slice none 0 0,[]⟩
theorem s0_sv (w:World):Sv w s0:=⟨Rr.nil w,Rr.nil w,Rr.nil w,Rr.nil w,Rr.nil w,Rr.nil w,Rr.nil w,Rr.nil w,Rr.nil w,fun _ hx=>absurd hx List.not_mem_nil,fun _ hx=>absurd hx List.not_mem_nil,fun _ hx=>absurd hx List.not_mem_nil,fun _ hx=>absurd hx List.not_mem_nil⟩
def q1:Rc:=⟨2,2,1,0,7,0,0,0,0,[112],[],[],.slice none 0 0,[]⟩
def q2:Rc:=⟨2,3,1,0,8,7,0,2,-1,[],[],[],.slice none 0 0,[]⟩
def q3:Rc:=⟨2,4,1,0,8,0,0,0,0,[],[],[],.slice none 0 0,[]⟩
def T1:St:=⟨1,1,1,.slice none 0 0,[],.slice none 0 0,[⟨7,[112],.slice none 0 0,[]⟩],.slice none 0 0,[],.slice none 0 0,[],.slice none 0 0,[],.slice none 0 0,[],.slice none 0 0,[],.slice none 0 0,[],.slice none 0 0,[]⟩
def T2:St:=⟨2,1,2,.slice none 0 0,[],.slice none 0 0,[⟨7,[112],.slice none 0 0,[]⟩],.slice none 0 0,[⟨8,7,0,2,-1,[]⟩],.slice none 0 0,[],.slice none 0 0,[],.slice none 0 0,[],.slice none 0 0,[],.slice none 0 0,[],.slice none 0 0,[]⟩
def T3:St:=⟨3,1,2,.slice none 0 0,[],.slice none 0 0,[⟨7,[112],.slice none 0 0,[]⟩],.slice none 0 0,[],.slice none 0 0,[],.slice none 0 0,[],.slice none 0 0,[],.slice none 0 0,[],.slice none 0 0,[],.slice none 0 0,[]⟩
theorem T1_eq:eBegan { s0.e with pos:=1,done:=max s0.done q1.fr } q1=T1:=by kernel_rfl
theorem T2_eq:eEntered { T1 with pos:=2,done:=max 1 q2.fr } q2=T2:=by kernel_rfl
theorem T3_eq:eLeft { T2 with pos:=3,done:=max 1 q3.fr } q3=T3:=by kernel_rfl
theorem sz_s0:Sz s0:=by refine ⟨by decide,by decide,by decide,by decide,by decide,by decide,by decide,by decide,by decide,?_,?_,?_,?_⟩ <;> intro x hx <;> exact absurd hx List.not_mem_nil
theorem sz_T1:Sz T1:=by
 refine ⟨by decide,by decide,by decide,by decide,by decide,by decide,by decide,by decide,by decide,?_,?_,?_,?_⟩ <;> intro x hx <;> simp [T1] at hx
 subst hx;decide
theorem sz_T2:Sz T2:=by
 refine ⟨by decide,by decide,by decide,by decide,by decide,by decide,by decide,by decide,by decide,?_,?_,?_,?_⟩ <;> intro x hx <;> simp [T2] at hx
 subst hx;decide
theorem A1_any (w:World):Calls Tryz.prog 5 #[.agg s0.c.toArray,.int .u64 ((1:Nat):Int),.agg q1.cs.toArray] w (Apd w T1) :=
 Apply_event 42 eBegan (s0_sv w) sz_s0 (Rr.nil w) ⟨rfl,by decide⟩ (by kernel_rfl) (by kernel_rfl) (enters_of Tryz.func42 (by kernel_rfl) rfl)
   (fun _ _ _ _ hS hB he hr=>began_any hS hB (by have:=congrArg (fun z=>z.insts.length) he;simp only [St.e,s0,List.length_map,List.map_nil,List.length_nil] at this;rw [this];omega) hr (by decide)) T1_eq.symm
theorem A2_any {w:World} {s:St} (h:Sv w s) (he:s.e=T1):Calls Tryz.prog 5 #[.agg s.c.toArray,.int .u64 ((2:Nat):Int),.agg q2.cs.toArray] w (Apd w T2):=by
 have hd:s.done=1:=congrArg St.done he
 refine Apply_event 43 eEntered h (Sz.of_e (by rw [he];exact sz_T1)) (Rr.nil w) ⟨rfl,by decide⟩ (by kernel_rfl) (by kernel_rfl) (enters_of Tryz.func43 (by kernel_rfl) rfl)
   (fun _ _ _ _ hS hB he' hr=>entered_any hS hB ?_ hr) ?_
 · have:=congrArg (fun z=>z.tokens.length) he'
   rw [he] at this
   simp only [St.e,T1,List.length_nil] at this
   rw [this];omega
 · rw [he,hd];exact T2_eq.symm
theorem A3_any {w:World} {s:St} (h:Sv w s) (he:s.e=T2):Calls Tryz.prog 5 #[.agg s.c.toArray,.int .u64 ((3:Nat):Int),.agg q3.cs.toArray] w (Apd w T3):=by
 have hd:s.done=1:=congrArg St.done he
 have aux:∀{t:St},t.e={ s.e with pos:=3,done:=max s.done q3.fr }→t.tokens.length=1∧t.jobs.length=0∧t.timers.length=0∧t.subs.length=0:=by
   intro t he'
   rw [he] at he'
   have h1:=congrArg (fun z=>z.tokens.length) he'
   have h2:=congrArg (fun z=>z.jobs.length) he'
   have h3:=congrArg (fun z=>z.timers.length) he'
   have h4:=congrArg (fun z=>z.subs.length) he'
   exact ⟨h1,h2,h3,h4⟩
 refine Apply_event 44 eLeft h (Sz.of_e (by rw [he];exact sz_T2)) (Rr.nil w) ⟨rfl,by decide⟩ (by kernel_rfl) (by kernel_rfl) (enters_of Tryz.func44 (by kernel_rfl) rfl)
   (fun _ _ _ _ hS hB he' hr=>left_any hS hB (by rw [(aux he').1];omega) (by rw [(aux he').2.1];omega) (by rw [(aux he').2.2.1];omega) (by rw [(aux he').2.2.2];omega) hr) ?_
 rw [he,hd];exact T3_eq.symm

theorem set12_obj {W:World} {g:Nat} {t:TypeId} {z0 z1 z2 z3 z4 z5 z6 z7 z8 z9 z10 z11:Value} (c0 c1 c2 c3 c4 c5 c6 c7 c8 c9 c10 c11:Value) (h:W.heap[g]?=some (.cells #[z0,z1,z2,z3,z4,z5,z6,z7,z8,z9,z10,z11] t (0,0))):(set12 W g c0 c1 c2 c3 c4 c5 c6 c7 c8 c9 c10 c11).heap[g]?=some (.cells #[c0,c1,c2,c3,c4,c5,c6,c7,c8,c9,c10,c11] t (0,0)):=by
 obtain ⟨cur,h1,-,h3⟩:=setCells_same g t [c0,c1,c2,c3,c4,c5,c6,c7,c8,c9,c10,c11] 0 W _ h (by simp)
 have e:cur=#[c0,c1,c2,c3,c4,c5,c6,c7,c8,c9,c10,c11]:=Array.toList_inj.1 (by rw [h3];simp)
 rw [e] at h1
 exact h1
theorem set12_size (W:World) (g:Nat) (c0 c1 c2 c3 c4 c5 c6 c7 c8 c9 c10 c11:Value):(set12 W g c0 c1 c2 c3 c4 c5 c6 c7 c8 c9 c10 c11).heap.size=W.heap.size:=by simp [set12]
theorem tok_T2:fstTk (fun x=>x.kk==8) T2.tokens=(⟨8,7,0,2,-1,[]⟩,true):=by kernel_rfl

theorem tk_len {s:St} (he:s.e=T2):s.tokens.length≤4611686018427387904:=by
 have h:s.tokens=T2.tokens:=(show s.e.tokens=T2.tokens from congrArg St.tokens he)
 rw [h];decide
theorem in_len {s:St} {w:World} (he:s.e=T3) (h:Sv w s) {a:Option Addr} {n c:Nat} (hv:s.vIn=.slice a n c):n=1:=by
 obtain ⟨_,_,e,-⟩:=h.rIn
 rw [hv] at e
 injection e with _ e _
 rw [e]
 have:=congrArg (fun z=>z.insts.length) he
 simpa [St.e,T3] using this
theorem tk_len0 {s:St} {w:World} (he:s.e=T3) (h:Sv w s) {a:Option Addr} {n c:Nat} (hv:s.vTk=.slice a n c):n=0:=by
 obtain ⟨_,_,e,-⟩:=h.rTk
 rw [hv] at e
 injection e with _ e _
 rw [e]
 exact congrArg (fun z=>z.tokens.length) he
theorem Own.of12 {B:Nat} {w:World} {L:List Rw} {g:Nat} {c0 c1 c2 c3 c4 c5 c6 c7 c8 c9 c10 c11:Value} (h:Own B w L) (hg:g<B):Own B (set12 w g c0 c1 c2 c3 c4 c5 c6 c7 c8 c9 c10 c11) L :=
 ⟨fun r hr=>(h.own r hr).ch (set12_ch w g c0 c1 c2 c3 c4 c5 c6 c7 c8 c9 c10 c11) (fun b hb e=>by have:=((h.own r hr).lt b hb).1;omega),h.apart⟩
theorem shown_any (w:World):Calls Tryz.prog 4 #[] w fun e w'=>e=.returned (.bool true)∧Below w.heap.size w w':=by
 have C1:=A1_any w
 simp only [St.c,s0,Rc.cs,q1,S] at C1
 go_enter Tryz.func4,Tryz.ntmps4
 go_wp2_with (first
   | (go_at_call 5;refine C1.mono ?_;rintro e w1 ⟨t1,rfl,hO1,he1,hb1⟩;obtain ⟨p1,d1,m1,vDe,lDe1,vIn,lIn1,vTk,lTk1,vJb,lJb1,vTm,lTm1,vSb,lSb1,vKp,lKp1,vLs,lLs1,vMs,lMs1⟩:=t1;obtain ⟨⟨aDe1,nDe1,cDe1,hsD⟩,⟨aIn1,nIn1,cIn1,hsIn⟩,⟨aTk1,nTk1,cTk1,hsTk⟩,⟨aJb1,nJb1,cJb1,hsJb⟩,⟨aTm1,nTm1,cTm1,hsTm⟩,⟨aSb1,nSb1,cSb1,hsSb⟩,⟨aKp1,nKp1,cKp1,hsK⟩,⟨aLs1,nLs1,cLs1,hsLs⟩,⟨aMs1,nMs1,cMs1,hsG⟩⟩:=St.slices hO1;simp only at hsD hsIn hsTk hsJb hsTm hsSb hsK hsLs hsG;subst hsD hsIn hsTk hsJb hsTm hsSb hsK hsLs hsG;simp only [St.c];(have C2:Hid (∀W,Below w1.heap.size w1 W→_):=fun W hW=>A2_any ((Own.sv hO1).up hW) he1);simp only [St.c,Rc.cs,q2,S] at C2;(have CC2:=C2.out _ ((Below.refl _ w1).alloc nlr (.cells #[.int .u64 (p1:Int),.int .u64 (d1:Int),.int .u64 (m1:Int),.slice aDe1 nDe1 cDe1,.slice aIn1 nIn1 cIn1,.slice aTk1 nTk1 cTk1,.slice aJb1 nJb1 cJb1,.slice aTm1 nTm1 cTm1,.slice aSb1 nSb1 cSb1,.slice aKp1 nKp1 cKp1,.slice aLs1 nLs1 cLs1,.slice aMs1 nMs1 cMs1] 33)));(have B1:Hid (Below w.heap.size w w1):=hb1);clear C1 C2 hb1 hO1 he1)
   | (go_at_call 5;refine CC2.mono ?_;rintro e w2 ⟨t2,rfl,hO2,he2,hb2⟩;obtain ⟨p2,d2,m2,vDe,lDe2,vIn,lIn2,vTk,lTk2,vJb,lJb2,vTm,lTm2,vSb,lSb2,vKp,lKp2,vLs,lLs2,vMs,lMs2⟩:=t2;obtain ⟨⟨aDe2,nDe2,cDe2,hsD⟩,⟨aIn2,nIn2,cIn2,hsIn⟩,⟨aTk2,nTk2,cTk2,hsTk⟩,⟨aJb2,nJb2,cJb2,hsJb⟩,⟨aTm2,nTm2,cTm2,hsTm⟩,⟨aSb2,nSb2,cSb2,hsSb⟩,⟨aKp2,nKp2,cKp2,hsK⟩,⟨aLs2,nLs2,cLs2,hsLs⟩,⟨aMs2,nMs2,cMs2,hsG⟩⟩:=St.slices hO2;simp only at hsD hsIn hsTk hsJb hsTm hsSb hsK hsLs hsG;subst hsD hsIn hsTk hsJb hsTm hsSb hsK hsLs hsG;simp only [St.c];(have hob2:w2.heap[w1.heap.size]?=some (.cells #[.int .u64 (p1:Int),.int .u64 (d1:Int),.int .u64 (m1:Int),.slice aDe1 nDe1 cDe1,.slice aIn1 nIn1 cIn1,.slice aTk1 nTk1 cTk1,.slice aJb1 nJb1 cJb1,.slice aTm1 nTm1 cTm1,.slice aSb1 nSb1 cSb1,.slice aKp1 nKp1 cKp1,.slice aLs1 nLs1 cLs1,.slice aMs1 nMs1 cMs1] 33 (0,0)):=(hb2.block _ (by simp)).trans (heap_alloc_new w1 _));(have x20:w2.cell? ⟨w1.heap.size,0,none⟩=some (.int .u64 (p1:Int)):=by simp [World.cell?,hob2]);(have y20:w2.frozen? ⟨w1.heap.size,0,none⟩=false:=by simp [World.frozen?,hob2]);(have x21:w2.cell? ⟨w1.heap.size,1,none⟩=some (.int .u64 (d1:Int)):=by simp [World.cell?,hob2]);(have y21:w2.frozen? ⟨w1.heap.size,1,none⟩=false:=by simp [World.frozen?,hob2]);(have x22:w2.cell? ⟨w1.heap.size,2,none⟩=some (.int .u64 (m1:Int)):=by simp [World.cell?,hob2]);(have y22:w2.frozen? ⟨w1.heap.size,2,none⟩=false:=by simp [World.frozen?,hob2]);(have x23:w2.cell? ⟨w1.heap.size,3,none⟩=some (.slice aDe1 nDe1 cDe1):=by simp [World.cell?,hob2]);(have y23:w2.frozen? ⟨w1.heap.size,3,none⟩=false:=by simp [World.frozen?,hob2]);(have x24:w2.cell? ⟨w1.heap.size,4,none⟩=some (.slice aIn1 nIn1 cIn1):=by simp [World.cell?,hob2]);(have y24:w2.frozen? ⟨w1.heap.size,4,none⟩=false:=by simp [World.frozen?,hob2]);(have x25:w2.cell? ⟨w1.heap.size,5,none⟩=some (.slice aTk1 nTk1 cTk1):=by simp [World.cell?,hob2]);(have y25:w2.frozen? ⟨w1.heap.size,5,none⟩=false:=by simp [World.frozen?,hob2]);(have x26:w2.cell? ⟨w1.heap.size,6,none⟩=some (.slice aJb1 nJb1 cJb1):=by simp [World.cell?,hob2]);(have y26:w2.frozen? ⟨w1.heap.size,6,none⟩=false:=by simp [World.frozen?,hob2]);(have x27:w2.cell? ⟨w1.heap.size,7,none⟩=some (.slice aTm1 nTm1 cTm1):=by simp [World.cell?,hob2]);(have y27:w2.frozen? ⟨w1.heap.size,7,none⟩=false:=by simp [World.frozen?,hob2]);(have x28:w2.cell? ⟨w1.heap.size,8,none⟩=some (.slice aSb1 nSb1 cSb1):=by simp [World.cell?,hob2]);(have y28:w2.frozen? ⟨w1.heap.size,8,none⟩=false:=by simp [World.frozen?,hob2]);(have x29:w2.cell? ⟨w1.heap.size,9,none⟩=some (.slice aKp1 nKp1 cKp1):=by simp [World.cell?,hob2]);(have y29:w2.frozen? ⟨w1.heap.size,9,none⟩=false:=by simp [World.frozen?,hob2]);(have x210:w2.cell? ⟨w1.heap.size,10,none⟩=some (.slice aLs1 nLs1 cLs1):=by simp [World.cell?,hob2]);(have y210:w2.frozen? ⟨w1.heap.size,10,none⟩=false:=by simp [World.frozen?,hob2]);(have x211:w2.cell? ⟨w1.heap.size,11,none⟩=some (.slice aMs1 nMs1 cMs1):=by simp [World.cell?,hob2]);(have y211:w2.frozen? ⟨w1.heap.size,11,none⟩=false:=by simp [World.frozen?,hob2]);(have hl2:w1.heap.size<w2.heap.size:=(Array.getElem?_eq_some_iff.1 hob2).1);(have hOb3:(set12 w2 w1.heap.size (.int .u64 (p2:Int)) (.int .u64 (d2:Int)) (.int .u64 (m2:Int)) (.slice aDe2 nDe2 cDe2) (.slice aIn2 nIn2 cIn2) (.slice aTk2 nTk2 cTk2) (.slice aJb2 nJb2 cJb2) (.slice aTm2 nTm2 cTm2) (.slice aSb2 nSb2 cSb2) (.slice aKp2 nKp2 cKp2) (.slice aLs2 nLs2 cLs2) (.slice aMs2 nMs2 cMs2)).heap[w1.heap.size]?=some (.cells #[.int .u64 (p2:Int),.int .u64 (d2:Int),.int .u64 (m2:Int),.slice aDe2 nDe2 cDe2,.slice aIn2 nIn2 cIn2,.slice aTk2 nTk2 cTk2,.slice aJb2 nJb2 cJb2,.slice aTm2 nTm2 cTm2,.slice aSb2 nSb2 cSb2,.slice aKp2 nKp2 cKp2,.slice aLs2 nLs2 cLs2,.slice aMs2 nMs2 cMs2] 33 (0,0)):=set12_obj (.int .u64 (p2:Int)) (.int .u64 (d2:Int)) (.int .u64 (m2:Int)) (.slice aDe2 nDe2 cDe2) (.slice aIn2 nIn2 cIn2) (.slice aTk2 nTk2 cTk2) (.slice aJb2 nJb2 cJb2) (.slice aTm2 nTm2 cTm2) (.slice aSb2 nSb2 cSb2) (.slice aKp2 nKp2 cKp2) (.slice aLs2 nLs2 cLs2) (.slice aMs2 nMs2 cMs2) hob2);rw [World.size_alloc] at hO2;(have hO3:Own (w1.heap.size+1) (set12 w2 w1.heap.size (.int .u64 (p2:Int)) (.int .u64 (d2:Int)) (.int .u64 (m2:Int)) (.slice aDe2 nDe2 cDe2) (.slice aIn2 nIn2 cIn2) (.slice aTk2 nTk2 cTk2) (.slice aJb2 nJb2 cJb2) (.slice aTm2 nTm2 cTm2) (.slice aSb2 nSb2 cSb2) (.slice aKp2 nKp2 cKp2) (.slice aLs2 nLs2 cLs2) (.slice aMs2 nMs2 cMs2)) (St.rows ⟨p2,d2,m2,.slice aDe2 nDe2 cDe2,lDe2,.slice aIn2 nIn2 cIn2,lIn2,.slice aTk2 nTk2 cTk2,lTk2,.slice aJb2 nJb2 cJb2,lJb2,.slice aTm2 nTm2 cTm2,lTm2,.slice aSb2 nSb2 cSb2,lSb2,.slice aKp2 nKp2 cKp2,lKp2,.slice aLs2 nLs2 cLs2,lLs2,.slice aMs2 nMs2 cMs2,lMs2⟩):=Own.of12 hO2 (Nat.lt_succ_self _));(have CT:=Token_any 8 (Own.sv hO3) (tk_len he2));(have htk:(⟨p2,d2,m2,.slice aDe2 nDe2 cDe2,lDe2,.slice aIn2 nIn2 cIn2,lIn2,.slice aTk2 nTk2 cTk2,lTk2,.slice aJb2 nJb2 cJb2,lJb2,.slice aTm2 nTm2 cTm2,lTm2,.slice aSb2 nSb2 cSb2,lSb2,.slice aKp2 nKp2 cKp2,lKp2,.slice aLs2 nLs2 cLs2,lLs2,.slice aMs2 nMs2 cMs2,lMs2⟩:St).tokens=T2.tokens:=(show (St.e ⟨p2,d2,m2,.slice aDe2 nDe2 cDe2,lDe2,.slice aIn2 nIn2 cIn2,lIn2,.slice aTk2 nTk2 cTk2,lTk2,.slice aJb2 nJb2 cJb2,lJb2,.slice aTm2 nTm2 cTm2,lTm2,.slice aSb2 nSb2 cSb2,lSb2,.slice aKp2 nKp2 cKp2,lKp2,.slice aLs2 nLs2 cLs2,lLs2,.slice aMs2 nMs2 cMs2,lMs2⟩).tokens=T2.tokens from congrArg St.tokens he2));rw [htk,tok_T2] at CT;simp only [St.c,Tk.c,S] at CT;(have B2:Hid (Below w.heap.size w (set12 w2 w1.heap.size (.int .u64 (p2:Int)) (.int .u64 (d2:Int)) (.int .u64 (m2:Int)) (.slice aDe2 nDe2 cDe2) (.slice aIn2 nIn2 cIn2) (.slice aTk2 nTk2 cTk2) (.slice aJb2 nJb2 cJb2) (.slice aTm2 nTm2 cTm2) (.slice aSb2 nSb2 cSb2) (.slice aKp2 nKp2 cKp2) (.slice aLs2 nLs2 cLs2) (.slice aMs2 nMs2 cMs2))):=(B1.out.trans ((Below.refl _ w1).alloc B1.out.size _)).trans ((hb2.mono (by (have:=B1.out.size;simp;omega))).trans ((set12_ch w2 w1.heap.size (.int .u64 (p2:Int)) (.int .u64 (d2:Int)) (.int .u64 (m2:Int)) (.slice aDe2 nDe2 cDe2) (.slice aIn2 nIn2 cIn2) (.slice aTk2 nTk2 cTk2) (.slice aJb2 nJb2 cJb2) (.slice aTm2 nTm2 cTm2) (.slice aSb2 nSb2 cSb2) (.slice aKp2 nKp2 cKp2) (.slice aLs2 nLs2 cLs2) (.slice aMs2 nMs2 cMs2)).below (Nat.le_trans B1.out.size (Nat.le_of_lt hl2)) (fun g hg e=>by (have:=B1.out.size;omega)))));(have HO3:Hid (Own (w1.heap.size+1) (set12 w2 w1.heap.size (.int .u64 (p2:Int)) (.int .u64 (d2:Int)) (.int .u64 (m2:Int)) (.slice aDe2 nDe2 cDe2) (.slice aIn2 nIn2 cIn2) (.slice aTk2 nTk2 cTk2) (.slice aJb2 nJb2 cJb2) (.slice aTm2 nTm2 cTm2) (.slice aSb2 nSb2 cSb2) (.slice aKp2 nKp2 cKp2) (.slice aLs2 nLs2 cLs2) (.slice aMs2 nMs2 cMs2)) (St.rows ⟨p2,d2,m2,.slice aDe2 nDe2 cDe2,lDe2,.slice aIn2 nIn2 cIn2,lIn2,.slice aTk2 nTk2 cTk2,lTk2,.slice aJb2 nJb2 cJb2,lJb2,.slice aTm2 nTm2 cTm2,lTm2,.slice aSb2 nSb2 cSb2,lSb2,.slice aKp2 nKp2 cKp2,lKp2,.slice aLs2 nLs2 cLs2,lLs2,.slice aMs2 nMs2 cMs2,lMs2⟩)):=hO3);(have HE2:Hid _:=he2);(have HOB3:Hid _:=hOb3);clear CC2 hb2 hO2 he2 hOb3 hO3 hob2 htk)
   | (go_at_call 9;refine CT.mono ?_;rintro e w3 ⟨rfl,hb3⟩;(have hob3:w3.heap[w1.heap.size]?=some (.cells #[.int .u64 (p2:Int),.int .u64 (d2:Int),.int .u64 (m2:Int),.slice aDe2 nDe2 cDe2,.slice aIn2 nIn2 cIn2,.slice aTk2 nTk2 cTk2,.slice aJb2 nJb2 cJb2,.slice aTm2 nTm2 cTm2,.slice aSb2 nSb2 cSb2,.slice aKp2 nKp2 cKp2,.slice aLs2 nLs2 cLs2,.slice aMs2 nMs2 cMs2] 33 (0,0)):=(hb3.block _ (by rw [set12_size];exact hl2)).trans HOB3.out);(have x30:w3.cell? ⟨w1.heap.size,0,none⟩=some (.int .u64 (p2:Int)):=by simp [World.cell?,hob3]);(have y30:w3.frozen? ⟨w1.heap.size,0,none⟩=false:=by simp [World.frozen?,hob3]);(have x31:w3.cell? ⟨w1.heap.size,1,none⟩=some (.int .u64 (d2:Int)):=by simp [World.cell?,hob3]);(have y31:w3.frozen? ⟨w1.heap.size,1,none⟩=false:=by simp [World.frozen?,hob3]);(have x32:w3.cell? ⟨w1.heap.size,2,none⟩=some (.int .u64 (m2:Int)):=by simp [World.cell?,hob3]);(have y32:w3.frozen? ⟨w1.heap.size,2,none⟩=false:=by simp [World.frozen?,hob3]);(have x33:w3.cell? ⟨w1.heap.size,3,none⟩=some (.slice aDe2 nDe2 cDe2):=by simp [World.cell?,hob3]);(have y33:w3.frozen? ⟨w1.heap.size,3,none⟩=false:=by simp [World.frozen?,hob3]);(have x34:w3.cell? ⟨w1.heap.size,4,none⟩=some (.slice aIn2 nIn2 cIn2):=by simp [World.cell?,hob3]);(have y34:w3.frozen? ⟨w1.heap.size,4,none⟩=false:=by simp [World.frozen?,hob3]);(have x35:w3.cell? ⟨w1.heap.size,5,none⟩=some (.slice aTk2 nTk2 cTk2):=by simp [World.cell?,hob3]);(have y35:w3.frozen? ⟨w1.heap.size,5,none⟩=false:=by simp [World.frozen?,hob3]);(have x36:w3.cell? ⟨w1.heap.size,6,none⟩=some (.slice aJb2 nJb2 cJb2):=by simp [World.cell?,hob3]);(have y36:w3.frozen? ⟨w1.heap.size,6,none⟩=false:=by simp [World.frozen?,hob3]);(have x37:w3.cell? ⟨w1.heap.size,7,none⟩=some (.slice aTm2 nTm2 cTm2):=by simp [World.cell?,hob3]);(have y37:w3.frozen? ⟨w1.heap.size,7,none⟩=false:=by simp [World.frozen?,hob3]);(have x38:w3.cell? ⟨w1.heap.size,8,none⟩=some (.slice aSb2 nSb2 cSb2):=by simp [World.cell?,hob3]);(have y38:w3.frozen? ⟨w1.heap.size,8,none⟩=false:=by simp [World.frozen?,hob3]);(have x39:w3.cell? ⟨w1.heap.size,9,none⟩=some (.slice aKp2 nKp2 cKp2):=by simp [World.cell?,hob3]);(have y39:w3.frozen? ⟨w1.heap.size,9,none⟩=false:=by simp [World.frozen?,hob3]);(have x310:w3.cell? ⟨w1.heap.size,10,none⟩=some (.slice aLs2 nLs2 cLs2):=by simp [World.cell?,hob3]);(have y310:w3.frozen? ⟨w1.heap.size,10,none⟩=false:=by simp [World.frozen?,hob3]);(have x311:w3.cell? ⟨w1.heap.size,11,none⟩=some (.slice aMs2 nMs2 cMs2):=by simp [World.cell?,hob3]);(have y311:w3.frozen? ⟨w1.heap.size,11,none⟩=false:=by simp [World.frozen?,hob3]);(have hl3:w1.heap.size<w3.heap.size:=(Array.getElem?_eq_some_iff.1 hob3).1);(have hb3a:Below (set12 w2 w1.heap.size (.int .u64 (p2:Int)) (.int .u64 (d2:Int)) (.int .u64 (m2:Int)) (.slice aDe2 nDe2 cDe2) (.slice aIn2 nIn2 cIn2) (.slice aTk2 nTk2 cTk2) (.slice aJb2 nJb2 cJb2) (.slice aTm2 nTm2 cTm2) (.slice aSb2 nSb2 cSb2) (.slice aKp2 nKp2 cKp2) (.slice aLs2 nLs2 cLs2) (.slice aMs2 nMs2 cMs2)).heap.size (set12 w2 w1.heap.size (.int .u64 (p2:Int)) (.int .u64 (d2:Int)) (.int .u64 (m2:Int)) (.slice aDe2 nDe2 cDe2) (.slice aIn2 nIn2 cIn2) (.slice aTk2 nTk2 cTk2) (.slice aJb2 nJb2 cJb2) (.slice aTm2 nTm2 cTm2) (.slice aSb2 nSb2 cSb2) (.slice aKp2 nKp2 cKp2) (.slice aLs2 nLs2 cLs2) (.slice aMs2 nMs2 cMs2)) (w3.alloc (.cells #[.int .u64 8,.int .u64 7,.int .u64 0,.int .i64 2,.int .i64 (-1),.string ⟨#[]⟩] 44)):=bel_of hb3 ((Below.refl _ w3).alloc nlr _) nlr);(have C3:=A3_any ((Own.sv HO3.out).up hb3a) HE2.out);simp only [St.c,Rc.cs,q3,S] at C3;(have B3:Hid (Below w.heap.size w (w3.alloc (.cells #[.int .u64 8,.int .u64 7,.int .u64 0,.int .i64 2,.int .i64 (-1),.string ⟨#[]⟩] 44))):=bel_of B2.out hb3a nlr);(have HOB4:Hid ((w3.alloc (.cells #[.int .u64 8,.int .u64 7,.int .u64 0,.int .i64 2,.int .i64 (-1),.string ⟨#[]⟩] 44)).heap[w1.heap.size]?=some (.cells #[.int .u64 (p2:Int),.int .u64 (d2:Int),.int .u64 (m2:Int),.slice aDe2 nDe2 cDe2,.slice aIn2 nIn2 cIn2,.slice aTk2 nTk2 cTk2,.slice aJb2 nJb2 cJb2,.slice aTm2 nTm2 cTm2,.slice aSb2 nSb2 cSb2,.slice aKp2 nKp2 cKp2,.slice aLs2 nLs2 cLs2,.slice aMs2 nMs2 cMs2] 33 (0,0))):=(((Below.refl _ w3).alloc nlr _).block _ hl3).trans hob3);clear CT hb3 hb3a hob3 HO3)
   | (go_at_call 5;refine C3.mono ?_;rintro e w4 ⟨t4,rfl,hO4,he4,hb4⟩;obtain ⟨p4,d4,m4,vDe,lDe4,vIn,lIn4,vTk,lTk4,vJb,lJb4,vTm,lTm4,vSb,lSb4,vKp,lKp4,vLs,lLs4,vMs,lMs4⟩:=t4;obtain ⟨⟨aDe4,nDe4,cDe4,hsD⟩,⟨aIn4,nIn4,cIn4,hsIn⟩,⟨aTk4,nTk4,cTk4,hsTk⟩,⟨aJb4,nJb4,cJb4,hsJb⟩,⟨aTm4,nTm4,cTm4,hsTm⟩,⟨aSb4,nSb4,cSb4,hsSb⟩,⟨aKp4,nKp4,cKp4,hsK⟩,⟨aLs4,nLs4,cLs4,hsLs⟩,⟨aMs4,nMs4,cMs4,hsG⟩⟩:=St.slices hO4;simp only at hsD hsIn hsTk hsJb hsTm hsSb hsK hsLs hsG;subst hsD hsIn hsTk hsJb hsTm hsSb hsK hsLs hsG;simp only [St.c];(have hob4:w4.heap[w1.heap.size]?=some (.cells #[.int .u64 (p2:Int),.int .u64 (d2:Int),.int .u64 (m2:Int),.slice aDe2 nDe2 cDe2,.slice aIn2 nIn2 cIn2,.slice aTk2 nTk2 cTk2,.slice aJb2 nJb2 cJb2,.slice aTm2 nTm2 cTm2,.slice aSb2 nSb2 cSb2,.slice aKp2 nKp2 cKp2,.slice aLs2 nLs2 cLs2,.slice aMs2 nMs2 cMs2] 33 (0,0)):=(hb4.block _ (by (simp;omega))).trans HOB4.out);(have x40:w4.cell? ⟨w1.heap.size,0,none⟩=some (.int .u64 (p2:Int)):=by simp [World.cell?,hob4]);(have y40:w4.frozen? ⟨w1.heap.size,0,none⟩=false:=by simp [World.frozen?,hob4]);(have x41:w4.cell? ⟨w1.heap.size,1,none⟩=some (.int .u64 (d2:Int)):=by simp [World.cell?,hob4]);(have y41:w4.frozen? ⟨w1.heap.size,1,none⟩=false:=by simp [World.frozen?,hob4]);(have x42:w4.cell? ⟨w1.heap.size,2,none⟩=some (.int .u64 (m2:Int)):=by simp [World.cell?,hob4]);(have y42:w4.frozen? ⟨w1.heap.size,2,none⟩=false:=by simp [World.frozen?,hob4]);(have x43:w4.cell? ⟨w1.heap.size,3,none⟩=some (.slice aDe2 nDe2 cDe2):=by simp [World.cell?,hob4]);(have y43:w4.frozen? ⟨w1.heap.size,3,none⟩=false:=by simp [World.frozen?,hob4]);(have x44:w4.cell? ⟨w1.heap.size,4,none⟩=some (.slice aIn2 nIn2 cIn2):=by simp [World.cell?,hob4]);(have y44:w4.frozen? ⟨w1.heap.size,4,none⟩=false:=by simp [World.frozen?,hob4]);(have x45:w4.cell? ⟨w1.heap.size,5,none⟩=some (.slice aTk2 nTk2 cTk2):=by simp [World.cell?,hob4]);(have y45:w4.frozen? ⟨w1.heap.size,5,none⟩=false:=by simp [World.frozen?,hob4]);(have x46:w4.cell? ⟨w1.heap.size,6,none⟩=some (.slice aJb2 nJb2 cJb2):=by simp [World.cell?,hob4]);(have y46:w4.frozen? ⟨w1.heap.size,6,none⟩=false:=by simp [World.frozen?,hob4]);(have x47:w4.cell? ⟨w1.heap.size,7,none⟩=some (.slice aTm2 nTm2 cTm2):=by simp [World.cell?,hob4]);(have y47:w4.frozen? ⟨w1.heap.size,7,none⟩=false:=by simp [World.frozen?,hob4]);(have x48:w4.cell? ⟨w1.heap.size,8,none⟩=some (.slice aSb2 nSb2 cSb2):=by simp [World.cell?,hob4]);(have y48:w4.frozen? ⟨w1.heap.size,8,none⟩=false:=by simp [World.frozen?,hob4]);(have x49:w4.cell? ⟨w1.heap.size,9,none⟩=some (.slice aKp2 nKp2 cKp2):=by simp [World.cell?,hob4]);(have y49:w4.frozen? ⟨w1.heap.size,9,none⟩=false:=by simp [World.frozen?,hob4]);(have x410:w4.cell? ⟨w1.heap.size,10,none⟩=some (.slice aLs2 nLs2 cLs2):=by simp [World.cell?,hob4]);(have y410:w4.frozen? ⟨w1.heap.size,10,none⟩=false:=by simp [World.frozen?,hob4]);(have x411:w4.cell? ⟨w1.heap.size,11,none⟩=some (.slice aMs2 nMs2 cMs2):=by simp [World.cell?,hob4]);(have y411:w4.frozen? ⟨w1.heap.size,11,none⟩=false:=by simp [World.frozen?,hob4]);(have tk3:w4.cell? ⟨w3.heap.size,3,none⟩=some (.int .i64 2):=(hb4.cell (p:=⟨w3.heap.size,3,none⟩) (by simp)).trans (World.cell?_alloc_new w3 _ _ _));(have g1:nIn4=1:=in_len he4 (Own.sv hO4) rfl);(have g2:nTk4=0:=tk_len0 he4 (Own.sv hO4) rfl);(have g3:m4=2:=congrArg St.made he4);(have g4:p4=3:=congrArg St.pos he4);(have g5:d4=1:=congrArg St.done he4);subst g1 g2 g3 g4 g5;(have hne4:¬w3.heap.size=w1.heap.size:=by omega);(have hne5:¬w1.heap.size=w3.heap.size:=by omega);(have B4:Hid (Below w.heap.size w w4):=bel_of B3.out hb4 nlr);clear C3 hb4 hO4 he4 hob4))
 go_ret
 exact ⟨by simp,B4.out.trans ((set12_ch w4 w1.heap.size _ _ _ _ _ _ _ _ _ _ _ _).below B4.out.size (fun g hg e=>by have:=B1.out.size;omega))⟩
end Go.Proofs.YtmfempdcpoeicaaGreat.f13
