/-
  The document's Clone.
-/
import Derived.Test.YtgklemopmiabcaaGreatF13Put
import Derived.Test.YtgklemopmiabcaaGreatF13Cl
import Derived.Deep.RegionLaw
import Derived.Deep.CutRange
set_option maxHeartbeats 16000000
set_option maxRecDepth 100000
namespace Go.Proofs.YtgklemopmiabcaaGreat.f13
open Go.RowKit Go.Shelf Go.Sort
open Go.Lib hiding intOf

theorem lit_app {α : Type} {k by_ : Nat} {c : α → List Value} {et T : TypeId} {z : Value} (hk : ∀ x, (c x).length = k) (h0 : 0 < k) (hT : Tryz.prog.underlying T = some (.slice et)) (hinfo : (Tryz.prog.info? et).map (fun i => (i.zero, i.size, i.bytes)) = some (some z, k, by_)) (hz : z.cells.size = k) {W : World} {a : Option Addr} {cp : Nat} {l : List α} (h : Rr k c W (.slice a l.length cp) l) (h1 : ∀ u ∈ l.flatMap c, u.oneCell' = true) (hn : l.length ≤ 4611686018427387904) (hfit : (0 + l.length + (0 + l.length) / 4 + 192) * by_ ≤ 281474976710656) (ty : TypeId) :
   ∃v' w',(Builtin.append_ #[T,T] ty #[.slice (some ⟨W.heap.size,0,none⟩) 0 0,.slice a l.length cp]).run Tryz.prog (W.alloc (.cells #[] et))=.ok v' w'∧(∃a n c,v'=.slice a n c)∧w'.ownsRow W.heap.size et k v' l.length (l.flatMap c)∧Below W.heap.size W w':=by
 obtain ⟨i0,hi0,hz0,hz1,hz2⟩:=info_parts hinfo
 have hb:Below W.heap.size W (W.alloc (.cells #[] et)):=(Below.refl _ W).alloc (Nat.le_refl _) _
 have HR:(W.alloc (.cells #[] et)).ownsRow W.heap.size et k (.slice (some ⟨W.heap.size,0,none⟩) 0 0) 0 []:=⟨by simp,.inr ⟨W.heap.size,0,#[],rfl,Nat.le_refl _,heap_alloc_new W _,Nat.le_refl _,by unfold maxLen;omega,by simp,by simp⟩⟩
 have h':=h.up hb
 obtain ⟨a',cp',e,hcp,-⟩:=id h
 injection e with e1 _ e2
 subst e1 e2
 cases a with
 | none =>
   have hl:l=[]:=List.eq_nil_of_length_eq_zero (by have:=hcp.1;have:=hcp.2 rfl;omega)
   subst hl
   obtain rfl:=hcp.2 rfl
   exact ⟨_,_,run_append_owned_none (P:=Tryz.prog) (W.alloc (.cells #[] et)) W.heap.size T ty et i0 k hT hi0 _ _ _ HR,⟨_,_,_,rfl⟩,HR,hb⟩
 | some ad =>
   obtain ⟨v',w',hr,h2,h3,_⟩:=run_append_own_wide (P:=Tryz.prog) (W.alloc (.cells #[] et)) W.heap.size T ty et i0 z k by_ hT hi0 hz0 hz1 hz2 hz h0 _ _ _ HR ad l.length cp (l.flatMap c) (fm_len hk l) (h'.cells hk h0) h1 (by unfold maxLen;omega) hfit (by simp)
   obtain ⟨a2,c2,e2,-⟩:=row_slice h2
   refine ⟨v',w',hr,⟨a2,_,c2,e2⟩,by simpa using h2,?_⟩
   have h4:=hb.grown h3 (by simp) (fun b hb'=>by simp [Value.ownBlock] at hb';omega)
   exact h4
theorem Own.cellRow {α : Type} {k : Nat} {c : α → List Value} (hk : ∀ x, (c x).length = k) {B : Nat} {w w1 : World} {t : TypeId} {g n cap i j : Nat} {X : List α} {L : List Rw} {r : Rw} (h : Own B w (⟨t, k, .slice (some ⟨g, 0, none⟩) n cap, n, X.flatMap c⟩ :: L)) (hi : i < X.length) (hb : Below w.heap.size w w1) (hr : r.ok w.heap.size w1) (hB : B ≤ w.heap.size) (y : α) (hj : j < k) (hy : c y = (c X[i]).set j r.v) :
   Own B (w1.setCell ⟨g,i*k+j,none⟩ r.v) (⟨t,k,.slice (some ⟨g,0,none⟩) n cap,n,(X.set i y).flatMap c⟩::r::L)∧Below B w (w1.setCell ⟨g,i*k+j,none⟩ r.v):=by
 have h1:=(h.add hb hr hB).perm (List.Perm.swap _ _ _)
 have hg:w1.ownsRow B t k (.slice (some ⟨g,0,none⟩) n cap) n (X.flatMap c):=h1.own _ (List.mem_cons_self ..)
 have hlt:=hg.lt g rfl
 have hp:=row_put hg (i*k+j) r.v
 rw [fm_set hk X i j hi hj y r.v hy] at hp
 exact ⟨h1.turn (r':=⟨t,k,.slice (some ⟨g,0,none⟩) n cap,n,(X.set i y).flatMap c⟩) (ch_cell w1 g (i*k+j) r.v) hp (fun b hb=>.inl hb),(hb.mono hB).trans ((ch_cell w1 g (i*k+j) r.v).below (Nat.le_trans hB hb.size) (fun b hb e=>by injection e with e;omega))⟩
theorem dOwn_any {w : World} {v : Value} {l : List Vr} (h : Rr 4 Vr.c w v l) (hn : l.length * 48 ≤ 211106232528000) :
   Calls Tryz.prog 21 #[v] w fun e w'=>∃v',e=.returned v'∧w'.ownsRow w.heap.size 95 4 v' l.length (l.flatMap Vr.c)∧Below w.heap.size w w':=by
 obtain ⟨a,cap,rfl,-⟩:=id h
 obtain ⟨v',w',hrun,⟨a1,n1,c1,rfl⟩,r1,b1⟩:=lit_app Vr.k (by decide) Tryz.underlying38 infoVr rfl h Vr.one (by omega) (by omega) 38
 have H1:Hid (w'.ownsRow w.heap.size 95 4 (.slice a1 n1 c1) l.length (l.flatMap Vr.c)∧Below w.heap.size w w'):=⟨r1,b1⟩
 clear h r1 b1
 go_enter Tryz.func21,Tryz.ntmps21
 go_wp2_with (at_builtin;refine Lib.wpList_append_run _ rfl _ _ _ _ rfl _ _ rfl rfl _ _ hrun ?_)
 go_ret
 exact ⟨_,rfl,H1.out⟩
end Go.Proofs.YtgklemopmiabcaaGreat.f13
namespace Go.Proofs.YtgklemopmiabcaaGreat.f13
open Go.RowKit Go.Shelf Go.Sort
open Go.Lib hiding intOf

theorem Own.step {α : Type} {k : Nat} {c : α → List Value} (hk : ∀ x, (c x).length = k) {rr : α → Rw} {B : Nat} {w w1 : World} {t : TypeId} {g n cap i j : Nat} {X : List α} {R : List Rw} {q : Rw} (h : Own B w (⟨t, k, .slice (some ⟨g, 0, none⟩) n cap, n, X.flatMap c⟩ :: ((X.take i).map rr ++ R))) (hi : i < X.length) (hb : Below w.heap.size w w1) (hr : q.ok w.heap.size w1) (hB : B ≤ w.heap.size) (y : α) (hq : rr y = q) (hj : j < k) (hy : c y = (c X[i]).set j q.v) :
   Own B (w1.setCell ⟨g,i*k+j,none⟩ q.v) (⟨t,k,.slice (some ⟨g,0,none⟩) n cap,n,(X.set i y).flatMap c⟩::(((X.set i y).take (i+1)).map rr++R))∧Below B w (w1.setCell ⟨g,i*k+j,none⟩ q.v):=by
 obtain ⟨k1,k2⟩:=Own.cellRow (c:=c) hk (r:=q) h hi hb hr hB y (j:=j) hj hy
 refine ⟨k1.perm (List.Perm.cons _ ?_),k2⟩
 have ht:(X.set i y).take (i+1)=X.take i++[y]:=by
   rw [List.take_succ_eq_append_getElem (by rw [List.length_set];exact hi),List.getElem_set_self,List.take_set_of_le (by omega)]
 rw [ht,List.map_append,List.append_assoc]
 simp only [List.map_cons,List.map_nil,hq]
 exact List.perm_middle.symm
theorem step_app {ops : Array Oper} {o : Oper} {a : Act} {w : World} {K : Act → World → Prop} {Q : Exit → Act → World → Prop} {E : Prop} (hgd : o.guard = none) (s x : Operand) (t u : TypeId)
   (ho:o.op=.call { callee:=.builtin .append,args:=#[s,x],argTypes:=#[t,u] }) (v y v':Value) (w':World) (hs:a.eval s=v) (hx:a.eval x=y)
   (hr:(Builtin.append_ #[t,u] o.type #[v,y]).run Tryz.prog w=.ok v' w') (h:K (a.put o.dst v') w') :
   if Region.wanted o (yielded ops a.tmps)=true then Oper.wp Tryz.prog o a w K Q else E:=by
 have hw:Region.wanted o (yielded ops a.tmps)=true:=by simp [Region.wanted,hgd]
 rw [if_pos hw]
 unfold Oper.wp
 simp [execOp,ho,resolve,invoke,builtin,hs,hx,hr,Result.andThen]
 exact h
theorem lit_app2 {α : Type} {k by_ : Nat} {c : α → List Value} {et T : TypeId} {z : Value} (hk : ∀ x, (c x).length = k) (h0 : 0 < k) (hT : Tryz.prog.underlying T = some (.slice et)) (hinfo : (Tryz.prog.info? et).map (fun i => (i.zero, i.size, i.bytes)) = some (some z, k, by_)) (hz : z.cells.size = k) {W V : World} (hV : V = (W.alloc (.cells #[] et)).drew) {a : Option Addr} {cp : Nat} {l : List α} (h : Rr k c W (.slice a l.length cp) l) (h1 : ∀ u ∈ l.flatMap c, u.oneCell' = true) (hn : l.length ≤ 4611686018427387904) (hfit : (0 + l.length + (0 + l.length) / 4 + 192) * by_ ≤ 281474976710656) (ty : TypeId) :
   ∃v' w',(Builtin.append_ #[T,T] ty #[.slice (some ⟨W.heap.size,0,none⟩) 0 0,.slice a l.length cp]).run Tryz.prog V=.ok v' w'∧(∃a n c,v'=.slice a n c)∧w'.ownsRow W.heap.size et k v' l.length (l.flatMap c)∧Below W.heap.size W w':=by
 obtain ⟨i0,hi0,hz0,hz1,hz2⟩:=info_parts hinfo
 have hb0:Below W.heap.size W (W.alloc (.cells #[] et)):=(Below.refl _ W).alloc (Nat.le_refl _) _
 have hb:Below W.heap.size W V:=by rw [hV];exact hb0.drew
 have HR0:(W.alloc (.cells #[] et)).ownsRow W.heap.size et k (.slice (some ⟨W.heap.size,0,none⟩) 0 0) 0 []:=⟨by simp,.inr ⟨W.heap.size,0,#[],rfl,Nat.le_refl _,heap_alloc_new W _,Nat.le_refl _,by unfold maxLen;omega,by simp,by simp⟩⟩
 have HR:V.ownsRow W.heap.size et k (.slice (some ⟨W.heap.size,0,none⟩) 0 0) 0 []:=by
   have h1:Rw.ok W.heap.size (W.alloc (.cells #[] et)) ⟨et,k,.slice (some ⟨W.heap.size,0,none⟩) 0 0,0,[]⟩:=HR0
   rw [hV]
   exact ((Own.single h1).up ((Below.refl _ _).drew)).own _ (List.mem_cons_self ..)
 have h':=h.up hb
 obtain ⟨a',cp',e,hcp,-⟩:=id h
 injection e with e1 _ e2
 subst e1 e2
 cases a with
 | none =>
   have hl:l=[]:=List.eq_nil_of_length_eq_zero (by have:=hcp.1;have:=hcp.2 rfl;omega)
   subst hl
   obtain rfl:=hcp.2 rfl
   exact ⟨_,_,run_append_owned_none (P:=Tryz.prog) V W.heap.size T ty et i0 k hT hi0 _ _ _ HR,⟨_,_,_,rfl⟩,HR,hb⟩
 | some ad =>
   obtain ⟨v',w',hr,h2,h3,_⟩:=run_append_own_wide (P:=Tryz.prog) V W.heap.size T ty et i0 z k by_ hT hi0 hz0 hz1 hz2 hz h0 _ _ _ HR ad l.length cp (l.flatMap c) (fm_len hk l) (h'.cells hk h0) h1 (by unfold maxLen;omega) hfit hb.size
   obtain ⟨a2,c2,e2,-⟩:=row_slice h2
   refine ⟨v',w',hr,⟨a2,_,c2,e2⟩,by simpa using h2,?_⟩
   have h4:=hb.grown h3 hb.size (fun b hb'=>by simp [Value.ownBlock] at hb';omega)
   exact h4
theorem row_set {w:World} {g i:Nat} {a old:Array Value} {t:TypeId} {fr:Nat × Nat} {v:Value} (hg:w.heap[g]?=some (.cells old t fr)):(w.setRow g a).setCell ⟨g,i,none⟩ v=w.setRow g (a.setIfInBounds i v):=by
 rw [setCell_eq_setRow (w.setRow g a) g i a t fr v (setRow_heap w g old a t fr hg),setRow_setRow]
theorem zs_set (c0 c1 c2 c3 c4 c5 c6 c7 c8 c9 c10 c11:Value):((((((((((((zs.toArray.setIfInBounds 0 c0).setIfInBounds 1 c1).setIfInBounds 2 c2).setIfInBounds 3 c3).setIfInBounds 4 c4).setIfInBounds 5 c5).setIfInBounds 6 c6).setIfInBounds 7 c7).setIfInBounds 8 c8).setIfInBounds 9 c9).setIfInBounds 10 c10).setIfInBounds 11 c11)=#[c0,c1,c2,c3,c4,c5,c6,c7,c8,c9,c10,c11]:=by simp [zs]
theorem set12_row {w:World} {g:Nat} {t:TypeId} {fr:Nat × Nat} (hg:w.heap[g]?=some (.cells zs.toArray t fr)) (c0 c1 c2 c3 c4 c5 c6 c7 c8 c9 c10 c11:Value):set12 w g c0 c1 c2 c3 c4 c5 c6 c7 c8 c9 c10 c11=w.setRow g #[c0,c1,c2,c3,c4,c5,c6,c7,c8,c9,c10,c11]:=by
 unfold set12
 rw [setCell_eq_setRow w g 0 _ t fr c0 hg]
 simp only [row_set hg]
 rw [zs_set]
theorem set_e {α:Type} {e:α→α} {X Y:List α} {i:Nat} (hY:X.map e=Y.map e) (hi:i<Y.length) {y:α} (hy:e y=e Y[i]):(X.set i y).map e=Y.map e:=by
 rw [List.map_set,hY]
 have:e y=(Y.map e)[i]'(by simpa using hi):=by rw [List.getElem_map];exact hy
 rw [this,List.set_getElem_self]
theorem set_drop {α:Type} {X Y:List α} {i:Nat} (h:X.drop i=Y.drop i) (y:α):(X.set i y).drop (i+1)=Y.drop (i+1):=by
 rw [List.drop_set_of_lt (by omega)]
 have:=congrArg (List.drop 1) h
 simpa [List.drop_drop] using this
theorem at_drop {α:Type} {X Y:List α} {i:Nat} (h:X.drop i=Y.drop i) (hi:i<X.length) (hj:i<Y.length):X[i]=Y[i]:=by
 have:=congrArg (fun l=>l[0]?) h
 simpa [List.getElem?_drop,List.getElem?_eq_getElem hi,List.getElem?_eq_getElem hj] using this

theorem dClone_any {w : World} {s : St} (h : Sv w s) (hz : Sz s) :
   Calls Tryz.prog 10 #[.agg s.c.toArray] w fun e w'=>∃s':St,e=.returned (.agg s'.c.toArray)∧Own w.heap.size w' s'.rows∧s'.e=s.e∧Below w.heap.size w w':=by
 obtain ⟨pos,done,made,vDe,procs,vIn,insts,vTk,tokens,vJb,jobs,vTm,timers,vSb,subs,vKp,kept,vLs,listed,vMs,msgs⟩:=s
 obtain ⟨aDe,cDe,hs,-⟩:=id h.rDe
 simp only at hs
 subst hs
 obtain ⟨aIn,cIn,hs,-⟩:=id h.rIn
 simp only at hs
 subst hs
 obtain ⟨aTk,cTk,hs,-⟩:=id h.rTk
 simp only at hs
 subst hs
 obtain ⟨aJb,cJb,hs,-⟩:=id h.rJb
 simp only at hs
 subst hs
 obtain ⟨aTm,cTm,hs,-⟩:=id h.rTm
 simp only at hs
 subst hs
 obtain ⟨aSb,cSb,hs,-⟩:=id h.rSb
 simp only at hs
 subst hs
 obtain ⟨aKp,cKp,hs,-⟩:=id h.rKp
 simp only at hs
 subst hs
 obtain ⟨aLs,cLs,hs,-⟩:=id h.rLs
 simp only at hs
 subst hs
 obtain ⟨aMs,cMs,hs,-⟩:=id h.rMs
 simp only at hs
 subst hs
 have ADe:Hid (∀W,Below w.heap.size w W→∃v' w',(Builtin.append_ #[23,23] 23 #[.slice (some ⟨W.heap.size,0,none⟩) 0 0,.slice aDe procs.length cDe]).run Tryz.prog (W.alloc (.cells #[] 72))=.ok v' w'∧(∃a n c,v'=.slice a n c)∧w'.ownsRow W.heap.size 72 2 v' procs.length (procs.flatMap De.c)∧Below W.heap.size W w'):=fun W hW=>lit_app De.k (by decide) Tryz.underlying23 infoDe rfl (h.rDe.up hW) De.one (by have:=hz.nDe;simp only at this;omega) (by have:=hz.nDe;simp only at this;omega) _
 have AIn:Hid (∀W,Below w.heap.size w W→∃v' w',(Builtin.append_ #[24,24] 24 #[.slice (some ⟨W.heap.size,0,none⟩) 0 0,.slice aIn insts.length cIn]).run Tryz.prog (W.alloc (.cells #[] 58))=.ok v' w'∧(∃a n c,v'=.slice a n c)∧w'.ownsRow W.heap.size 58 3 v' insts.length (insts.flatMap In.c)∧Below W.heap.size W w'):=fun W hW=>lit_app In.k (by decide) Tryz.underlying24 infoIn rfl (h.rIn.up hW) (In.one (fun x hx=>(h.iIn x hx).oneCell)) (by have:=hz.nIn;simp only at this;omega) (by have:=hz.nIn;simp only at this;omega) _
 have ATk:Hid (∀W,Below w.heap.size w W→∃v' w',(Builtin.append_ #[25,25] 25 #[.slice (some ⟨W.heap.size,0,none⟩) 0 0,.slice aTk tokens.length cTk]).run Tryz.prog (W.alloc (.cells #[] 44))=.ok v' w'∧(∃a n c,v'=.slice a n c)∧w'.ownsRow W.heap.size 44 6 v' tokens.length (tokens.flatMap Tk.c)∧Below W.heap.size W w'):=fun W hW=>lit_app Tk.k (by decide) Tryz.underlying25 infoTk rfl (h.rTk.up hW) Tk.one (by have:=hz.nTk;simp only at this;omega) (by have:=hz.nTk;simp only at this;omega) _
 have AJb:Hid (∀W,Below w.heap.size w W→∃v' w',(Builtin.append_ #[26,26] 26 #[.slice (some ⟨W.heap.size,0,none⟩) 0 0,.slice aJb jobs.length cJb]).run Tryz.prog (W.alloc (.cells #[] 48))=.ok v' w'∧(∃a n c,v'=.slice a n c)∧w'.ownsRow W.heap.size 48 6 v' jobs.length (jobs.flatMap Jb.c)∧Below W.heap.size W w'):=fun W hW=>lit_app Jb.k (by decide) Tryz.underlying26 infoJb rfl (h.rJb.up hW) Jb.one (by have:=hz.nJb;simp only at this;omega) (by have:=hz.nJb;simp only at this;omega) _
 have ATm:Hid (∀W,Below w.heap.size w W→∃v' w',(Builtin.append_ #[27,27] 27 #[.slice (some ⟨W.heap.size,0,none⟩) 0 0,.slice aTm timers.length cTm]).run Tryz.prog (W.alloc (.cells #[] 75))=.ok v' w'∧(∃a n c,v'=.slice a n c)∧w'.ownsRow W.heap.size 75 3 v' timers.length (timers.flatMap Tm.c)∧Below W.heap.size W w'):=fun W hW=>lit_app Tm.k (by decide) Tryz.underlying27 infoTm rfl (h.rTm.up hW) Tm.one (by have:=hz.nTm;simp only at this;omega) (by have:=hz.nTm;simp only at this;omega) _
 have ASb:Hid (∀W,Below w.heap.size w W→∃v' w',(Builtin.append_ #[28,28] 28 #[.slice (some ⟨W.heap.size,0,none⟩) 0 0,.slice aSb subs.length cSb]).run Tryz.prog (W.alloc (.cells #[] 77))=.ok v' w'∧(∃a n c,v'=.slice a n c)∧w'.ownsRow W.heap.size 77 6 v' subs.length (subs.flatMap Sb.c)∧Below W.heap.size W w'):=fun W hW=>lit_app Sb.k (by decide) Tryz.underlying28 infoSb rfl (h.rSb.up hW) Sb.one (by have:=hz.nSb;simp only at this;omega) (by have:=hz.nSb;simp only at this;omega) _
 have AKp:Hid (∀W,Below w.heap.size w W→∃v' w',(Builtin.append_ #[29,29] 29 #[.slice (some ⟨W.heap.size,0,none⟩) 0 0,.slice aKp kept.length cKp]).run Tryz.prog (W.alloc (.cells #[] 79))=.ok v' w'∧(∃a n c,v'=.slice a n c)∧w'.ownsRow W.heap.size 79 3 v' kept.length (kept.flatMap Kp.c)∧Below W.heap.size W w'):=fun W hW=>lit_app Kp.k (by decide) Tryz.underlying29 infoKp rfl (h.rKp.up hW) Kp.one (by have:=hz.nKp;simp only at this;omega) (by have:=hz.nKp;simp only at this;omega) _
 have ALs:Hid (∀W,Below w.heap.size w W→∃v' w',(Builtin.append_ #[30,30] 30 #[.slice (some ⟨W.heap.size,0,none⟩) 0 0,.slice aLs listed.length cLs]).run Tryz.prog (W.alloc (.cells #[] 60))=.ok v' w'∧(∃a n c,v'=.slice a n c)∧w'.ownsRow W.heap.size 60 7 v' listed.length (listed.flatMap Ls.c)∧Below W.heap.size W w'):=fun W hW=>lit_app Ls.k (by decide) Tryz.underlying30 infoLs rfl (h.rLs.up hW) (Ls.one (fun x hx=>(h.iLs x hx).oneCell)) (by have:=hz.nLs;simp only at this;omega) (by have:=hz.nLs;simp only at this;omega) _
 have AMs:Hid (∀W,Below w.heap.size w W→∃v' w',(Builtin.append_ #[31,31] 31 #[.slice (some ⟨W.heap.size,0,none⟩) 0 0,.slice aMs msgs.length cMs]).run Tryz.prog (W.alloc (.cells #[] 63))=.ok v' w'∧(∃a n c,v'=.slice a n c)∧w'.ownsRow W.heap.size 63 7 v' msgs.length (msgs.flatMap Ms.c)∧Below W.heap.size W w'):=fun W hW=>lit_app Ms.k (by decide) Tryz.underlying31 infoMs rfl (h.rMs.up hW) (Ms.one (fun x hx=>(h.iMs x hx).oneCell) (fun x hx=>(h.qMs x hx).oneCell)) (by have:=hz.nMs;simp only at this;omega) (by have:=hz.nMs;simp only at this;omega) _
 have H0:Hid (Own w.heap.size ((w.alloc (.cells #[.int .u64 (pos:Int),.int .u64 (done:Int),.int .u64 (made:Int),.slice aDe procs.length cDe,.slice aIn insts.length cIn,.slice aTk tokens.length cTk,.slice aJb jobs.length cJb,.slice aTm timers.length cTm,.slice aSb subs.length cSb,.slice aKp kept.length cKp,.slice aLs listed.length cLs,.slice aMs msgs.length cMs] 33)).alloc (.cells #[.int .u64 0,.int .u64 0,.int .u64 0,.slice none 0 0,.slice none 0 0,.slice none 0 0,.slice none 0 0,.slice none 0 0,.slice none 0 0,.slice none 0 0,.slice none 0 0,.slice none 0 0] 33)) [bx w.heap.size [.int .u64 (pos:Int),.int .u64 (done:Int),.int .u64 (made:Int),.slice aDe procs.length cDe,.slice aIn insts.length cIn,.slice aTk tokens.length cTk,.slice aJb jobs.length cJb,.slice aTm timers.length cTm,.slice aSb subs.length cSb,.slice aKp kept.length cKp,.slice aLs listed.length cLs,.slice aMs msgs.length cMs],bx (w.heap.size+1) zs]∧Below w.heap.size w ((w.alloc (.cells #[.int .u64 (pos:Int),.int .u64 (done:Int),.int .u64 (made:Int),.slice aDe procs.length cDe,.slice aIn insts.length cIn,.slice aTk tokens.length cTk,.slice aJb jobs.length cJb,.slice aTm timers.length cTm,.slice aSb subs.length cSb,.slice aKp kept.length cKp,.slice aLs listed.length cLs,.slice aMs msgs.length cMs] 33)).alloc (.cells #[.int .u64 0,.int .u64 0,.int .u64 0,.slice none 0 0,.slice none 0 0,.slice none 0 0,.slice none 0 0,.slice none 0 0,.slice none 0 0,.slice none 0 0,.slice none 0 0,.slice none 0 0] 33))):=by
   have h1:=bx.new (Own.nil w.heap.size w) (Nat.le_refl _) [.int .u64 (pos:Int),.int .u64 (done:Int),.int .u64 (made:Int),.slice aDe procs.length cDe,.slice aIn insts.length cIn,.slice aTk tokens.length cTk,.slice aJb jobs.length cJb,.slice aTm timers.length cTm,.slice aSb subs.length cSb,.slice aKp kept.length cKp,.slice aLs listed.length cLs,.slice aMs msgs.length cMs] rfl
   have h2:=bx.new h1 (by simp) zs rfl
   rw [World.size_alloc] at h2
   refine ⟨(h2.perm (List.Perm.swap _ _ _)),?_⟩
   exact ((Below.refl _ w).alloc (Nat.le_refl _) _).alloc (by simp) _
 have HH:Hid _:=h
 have HZ:Hid _:=hz
 simp only [St.c]
 obtain ⟨v0,w0,hrun0,⟨bDe,nDe,dDe,rfl⟩,rDe,bDew⟩:=ADe.out _ H0.out.2
 have hlDe:nDe=procs.length:=by obtain ⟨_,_,e,-⟩:=row_slice rDe;injection e
 subst hlDe
 have hsz0:((w.alloc (.cells #[.int .u64 (pos:Int),.int .u64 (done:Int),.int .u64 (made:Int),.slice aDe procs.length cDe,.slice aIn insts.length cIn,.slice aTk tokens.length cTk,.slice aJb jobs.length cJb,.slice aTm timers.length cTm,.slice aSb subs.length cSb,.slice aKp kept.length cKp,.slice aLs listed.length cLs,.slice aMs msgs.length cMs] 33)).alloc (.cells #[.int .u64 0,.int .u64 0,.int .u64 0,.slice none 0 0,.slice none 0 0,.slice none 0 0,.slice none 0 0,.slice none 0 0,.slice none 0 0,.slice none 0 0,.slice none 0 0,.slice none 0 0] 33)).heap.size=w.heap.size+1+1:=by simp
 rw [hsz0] at hrun0
 clear h hz ADe
 go_enter Tryz.func10,Tryz.ntmps10
 go_wp2_with (first
   | (at_builtin;refine Lib.wpList_append_run _ rfl _ _ _ _ rfl _ _ rfl rfl _ _ hrun0 ?_;(have S0:Hid (Stp w.heap.size w w0 w.heap.size (w.heap.size+1) [.int .u64 (pos:Int),.int .u64 (done:Int),.int .u64 (made:Int),.slice aDe procs.length cDe,.slice aIn insts.length cIn,.slice aTk tokens.length cTk,.slice aJb jobs.length cJb,.slice aTm timers.length cTm,.slice aSb subs.length cSb,.slice aKp kept.length cKp,.slice aLs listed.length cLs,.slice aMs msgs.length cMs] ([De.rw (.slice bDe procs.length dDe) procs]++[]) 3 (.slice bDe procs.length dDe)):=Stp.of H0.out.1 H0.out.2 (Nat.le_refl _) bDew (Own.single (r:=De.rw (.slice bDe procs.length dDe) procs) rDe) 3 _);(have q0:=S0.out.c 3 _ rfl);(have f0:=S0.out.f 3);(have m0:((w0.setCell ⟨w.heap.size,3,none⟩ (.slice bDe procs.length dDe)).alloc (.cells #[] 58)).cell? ⟨w.heap.size,4,none⟩=some (.slice aIn insts.length cIn):=(World.cell?_alloc_lt _ _ _ ((S0.out.own.own _ (List.mem_cons_self ..)).lt w.heap.size rfl).2).trans (bx.cell S0.out.own (List.mem_cons_self ..) rfl));obtain ⟨v1,w1,hrun1,⟨bIn,nIn,dIn,rfl⟩,rIn,bInw⟩:=AIn.out _ S0.out.bel;(have hlIn:nIn=insts.length:=by (obtain ⟨_,_,e,-⟩:=row_slice rIn;injection e));subst hlIn;simp only [World.size_setCell] at hrun1;clear hrun0 rDe bDew AIn)
   | (at_builtin;refine Lib.wpList_append_run _ rfl _ _ _ _ rfl _ _ rfl rfl _ _ hrun1 ?_;(have S1:Hid (Stp w.heap.size w w1 w.heap.size (w.heap.size+1) [.int .u64 (pos:Int),.int .u64 (done:Int),.int .u64 (made:Int),.slice bDe procs.length dDe,.slice aIn insts.length cIn,.slice aTk tokens.length cTk,.slice aJb jobs.length cJb,.slice aTm timers.length cTm,.slice aSb subs.length cSb,.slice aKp kept.length cKp,.slice aLs listed.length cLs,.slice aMs msgs.length cMs] ([In.rw (.slice bIn insts.length dIn) insts]++([De.rw (.slice bDe procs.length dDe) procs]++[])) 4 (.slice bIn insts.length dIn)):=Stp.of S0.out.own S0.out.bel (Nat.le_refl _) bInw (Own.single (r:=In.rw (.slice bIn insts.length dIn) insts) rIn) 4 _);(have q1:=S1.out.c 4 _ rfl);(have f1:=S1.out.f 4);(have m1:((w1.setCell ⟨w.heap.size,4,none⟩ (.slice bIn insts.length dIn)).alloc (.cells #[] 44)).cell? ⟨w.heap.size,5,none⟩=some (.slice aTk tokens.length cTk):=(World.cell?_alloc_lt _ _ _ ((S1.out.own.own _ (List.mem_cons_self ..)).lt w.heap.size rfl).2).trans (bx.cell S1.out.own (List.mem_cons_self ..) rfl));obtain ⟨v2,w2,hrun2,⟨bTk,nTk,dTk,rfl⟩,rTk,bTkw⟩:=ATk.out _ S1.out.bel;(have hlTk:nTk=tokens.length:=by (obtain ⟨_,_,e,-⟩:=row_slice rTk;injection e));subst hlTk;simp only [World.size_setCell] at hrun2;clear hrun1 rIn bInw ATk)
   | (at_builtin;refine Lib.wpList_append_run _ rfl _ _ _ _ rfl _ _ rfl rfl _ _ hrun2 ?_;(have S2:Hid (Stp w.heap.size w w2 w.heap.size (w.heap.size+1) [.int .u64 (pos:Int),.int .u64 (done:Int),.int .u64 (made:Int),.slice bDe procs.length dDe,.slice bIn insts.length dIn,.slice aTk tokens.length cTk,.slice aJb jobs.length cJb,.slice aTm timers.length cTm,.slice aSb subs.length cSb,.slice aKp kept.length cKp,.slice aLs listed.length cLs,.slice aMs msgs.length cMs] ([Tk.rw (.slice bTk tokens.length dTk) tokens]++([In.rw (.slice bIn insts.length dIn) insts]++([De.rw (.slice bDe procs.length dDe) procs]++[]))) 5 (.slice bTk tokens.length dTk)):=Stp.of S1.out.own S1.out.bel (Nat.le_refl _) bTkw (Own.single (r:=Tk.rw (.slice bTk tokens.length dTk) tokens) rTk) 5 _);(have q2:=S2.out.c 5 _ rfl);(have f2:=S2.out.f 5);(have m2:((w2.setCell ⟨w.heap.size,5,none⟩ (.slice bTk tokens.length dTk)).alloc (.cells #[] 48)).cell? ⟨w.heap.size,6,none⟩=some (.slice aJb jobs.length cJb):=(World.cell?_alloc_lt _ _ _ ((S2.out.own.own _ (List.mem_cons_self ..)).lt w.heap.size rfl).2).trans (bx.cell S2.out.own (List.mem_cons_self ..) rfl));obtain ⟨v3,w3,hrun3,⟨bJb,nJb,dJb,rfl⟩,rJb,bJbw⟩:=AJb.out _ S2.out.bel;(have hlJb:nJb=jobs.length:=by (obtain ⟨_,_,e,-⟩:=row_slice rJb;injection e));subst hlJb;simp only [World.size_setCell] at hrun3;clear hrun2 rTk bTkw AJb)
   | (at_builtin;refine Lib.wpList_append_run _ rfl _ _ _ _ rfl _ _ rfl rfl _ _ hrun3 ?_;(have S3:Hid (Stp w.heap.size w w3 w.heap.size (w.heap.size+1) [.int .u64 (pos:Int),.int .u64 (done:Int),.int .u64 (made:Int),.slice bDe procs.length dDe,.slice bIn insts.length dIn,.slice bTk tokens.length dTk,.slice aJb jobs.length cJb,.slice aTm timers.length cTm,.slice aSb subs.length cSb,.slice aKp kept.length cKp,.slice aLs listed.length cLs,.slice aMs msgs.length cMs] ([Jb.rw (.slice bJb jobs.length dJb) jobs]++([Tk.rw (.slice bTk tokens.length dTk) tokens]++([In.rw (.slice bIn insts.length dIn) insts]++([De.rw (.slice bDe procs.length dDe) procs]++[])))) 6 (.slice bJb jobs.length dJb)):=Stp.of S2.out.own S2.out.bel (Nat.le_refl _) bJbw (Own.single (r:=Jb.rw (.slice bJb jobs.length dJb) jobs) rJb) 6 _);(have q3:=S3.out.c 6 _ rfl);(have f3:=S3.out.f 6);(have m3:((w3.setCell ⟨w.heap.size,6,none⟩ (.slice bJb jobs.length dJb)).alloc (.cells #[] 75)).cell? ⟨w.heap.size,7,none⟩=some (.slice aTm timers.length cTm):=(World.cell?_alloc_lt _ _ _ ((S3.out.own.own _ (List.mem_cons_self ..)).lt w.heap.size rfl).2).trans (bx.cell S3.out.own (List.mem_cons_self ..) rfl));obtain ⟨v4,w4,hrun4,⟨bTm,nTm,dTm,rfl⟩,rTm,bTmw⟩:=ATm.out _ S3.out.bel;(have hlTm:nTm=timers.length:=by (obtain ⟨_,_,e,-⟩:=row_slice rTm;injection e));subst hlTm;simp only [World.size_setCell] at hrun4;clear hrun3 rJb bJbw ATm)
   | (at_builtin;refine Lib.wpList_append_run _ rfl _ _ _ _ rfl _ _ rfl rfl _ _ hrun4 ?_;(have S4:Hid (Stp w.heap.size w w4 w.heap.size (w.heap.size+1) [.int .u64 (pos:Int),.int .u64 (done:Int),.int .u64 (made:Int),.slice bDe procs.length dDe,.slice bIn insts.length dIn,.slice bTk tokens.length dTk,.slice bJb jobs.length dJb,.slice aTm timers.length cTm,.slice aSb subs.length cSb,.slice aKp kept.length cKp,.slice aLs listed.length cLs,.slice aMs msgs.length cMs] ([Tm.rw (.slice bTm timers.length dTm) timers]++([Jb.rw (.slice bJb jobs.length dJb) jobs]++([Tk.rw (.slice bTk tokens.length dTk) tokens]++([In.rw (.slice bIn insts.length dIn) insts]++([De.rw (.slice bDe procs.length dDe) procs]++[]))))) 7 (.slice bTm timers.length dTm)):=Stp.of S3.out.own S3.out.bel (Nat.le_refl _) bTmw (Own.single (r:=Tm.rw (.slice bTm timers.length dTm) timers) rTm) 7 _);(have q4:=S4.out.c 7 _ rfl);(have f4:=S4.out.f 7);(have m4:((w4.setCell ⟨w.heap.size,7,none⟩ (.slice bTm timers.length dTm)).alloc (.cells #[] 77)).cell? ⟨w.heap.size,8,none⟩=some (.slice aSb subs.length cSb):=(World.cell?_alloc_lt _ _ _ ((S4.out.own.own _ (List.mem_cons_self ..)).lt w.heap.size rfl).2).trans (bx.cell S4.out.own (List.mem_cons_self ..) rfl));obtain ⟨v5,w5,hrun5,⟨bSb,nSb,dSb,rfl⟩,rSb,bSbw⟩:=ASb.out _ S4.out.bel;(have hlSb:nSb=subs.length:=by (obtain ⟨_,_,e,-⟩:=row_slice rSb;injection e));subst hlSb;simp only [World.size_setCell] at hrun5;clear hrun4 rTm bTmw ASb)
   | (at_builtin;refine Lib.wpList_append_run _ rfl _ _ _ _ rfl _ _ rfl rfl _ _ hrun5 ?_;(have S5:Hid (Stp w.heap.size w w5 w.heap.size (w.heap.size+1) [.int .u64 (pos:Int),.int .u64 (done:Int),.int .u64 (made:Int),.slice bDe procs.length dDe,.slice bIn insts.length dIn,.slice bTk tokens.length dTk,.slice bJb jobs.length dJb,.slice bTm timers.length dTm,.slice aSb subs.length cSb,.slice aKp kept.length cKp,.slice aLs listed.length cLs,.slice aMs msgs.length cMs] ([Sb.rw (.slice bSb subs.length dSb) subs]++([Tm.rw (.slice bTm timers.length dTm) timers]++([Jb.rw (.slice bJb jobs.length dJb) jobs]++([Tk.rw (.slice bTk tokens.length dTk) tokens]++([In.rw (.slice bIn insts.length dIn) insts]++([De.rw (.slice bDe procs.length dDe) procs]++[])))))) 8 (.slice bSb subs.length dSb)):=Stp.of S4.out.own S4.out.bel (Nat.le_refl _) bSbw (Own.single (r:=Sb.rw (.slice bSb subs.length dSb) subs) rSb) 8 _);(have q5:=S5.out.c 8 _ rfl);(have f5:=S5.out.f 8);(have m5:((w5.setCell ⟨w.heap.size,8,none⟩ (.slice bSb subs.length dSb)).alloc (.cells #[] 79)).cell? ⟨w.heap.size,9,none⟩=some (.slice aKp kept.length cKp):=(World.cell?_alloc_lt _ _ _ ((S5.out.own.own _ (List.mem_cons_self ..)).lt w.heap.size rfl).2).trans (bx.cell S5.out.own (List.mem_cons_self ..) rfl));obtain ⟨v6,w6,hrun6,⟨bKp,nKp,dKp,rfl⟩,rKp,bKpw⟩:=AKp.out _ S5.out.bel;(have hlKp:nKp=kept.length:=by (obtain ⟨_,_,e,-⟩:=row_slice rKp;injection e));subst hlKp;simp only [World.size_setCell] at hrun6;clear hrun5 rSb bSbw AKp)
   | (at_builtin;refine Lib.wpList_append_run _ rfl _ _ _ _ rfl _ _ rfl rfl _ _ hrun6 ?_;(have S6:Hid (Stp w.heap.size w w6 w.heap.size (w.heap.size+1) [.int .u64 (pos:Int),.int .u64 (done:Int),.int .u64 (made:Int),.slice bDe procs.length dDe,.slice bIn insts.length dIn,.slice bTk tokens.length dTk,.slice bJb jobs.length dJb,.slice bTm timers.length dTm,.slice bSb subs.length dSb,.slice aKp kept.length cKp,.slice aLs listed.length cLs,.slice aMs msgs.length cMs] ([Kp.rw (.slice bKp kept.length dKp) kept]++([Sb.rw (.slice bSb subs.length dSb) subs]++([Tm.rw (.slice bTm timers.length dTm) timers]++([Jb.rw (.slice bJb jobs.length dJb) jobs]++([Tk.rw (.slice bTk tokens.length dTk) tokens]++([In.rw (.slice bIn insts.length dIn) insts]++([De.rw (.slice bDe procs.length dDe) procs]++[]))))))) 9 (.slice bKp kept.length dKp)):=Stp.of S5.out.own S5.out.bel (Nat.le_refl _) bKpw (Own.single (r:=Kp.rw (.slice bKp kept.length dKp) kept) rKp) 9 _);(have q6:=S6.out.c 9 _ rfl);(have f6:=S6.out.f 9);(have m6:((w6.setCell ⟨w.heap.size,9,none⟩ (.slice bKp kept.length dKp)).alloc (.cells #[] 60)).cell? ⟨w.heap.size,10,none⟩=some (.slice aLs listed.length cLs):=(World.cell?_alloc_lt _ _ _ ((S6.out.own.own _ (List.mem_cons_self ..)).lt w.heap.size rfl).2).trans (bx.cell S6.out.own (List.mem_cons_self ..) rfl));obtain ⟨v7,w7,hrun7,⟨bLs,nLs,dLs,rfl⟩,rLs,bLsw⟩:=ALs.out _ S6.out.bel;(have hlLs:nLs=listed.length:=by (obtain ⟨_,_,e,-⟩:=row_slice rLs;injection e));subst hlLs;simp only [World.size_setCell] at hrun7;clear hrun6 rKp bKpw ALs)
   | (at_builtin;refine Lib.wpList_append_run _ rfl _ _ _ _ rfl _ _ rfl rfl _ _ hrun7 ?_;(have S7:Hid (Stp w.heap.size w w7 w.heap.size (w.heap.size+1) [.int .u64 (pos:Int),.int .u64 (done:Int),.int .u64 (made:Int),.slice bDe procs.length dDe,.slice bIn insts.length dIn,.slice bTk tokens.length dTk,.slice bJb jobs.length dJb,.slice bTm timers.length dTm,.slice bSb subs.length dSb,.slice bKp kept.length dKp,.slice aLs listed.length cLs,.slice aMs msgs.length cMs] ([Ls.rw (.slice bLs listed.length dLs) listed]++([Kp.rw (.slice bKp kept.length dKp) kept]++([Sb.rw (.slice bSb subs.length dSb) subs]++([Tm.rw (.slice bTm timers.length dTm) timers]++([Jb.rw (.slice bJb jobs.length dJb) jobs]++([Tk.rw (.slice bTk tokens.length dTk) tokens]++([In.rw (.slice bIn insts.length dIn) insts]++([De.rw (.slice bDe procs.length dDe) procs]++[])))))))) 10 (.slice bLs listed.length dLs)):=Stp.of S6.out.own S6.out.bel (Nat.le_refl _) bLsw (Own.single (r:=Ls.rw (.slice bLs listed.length dLs) listed) rLs) 10 _);(have q7:=S7.out.c 10 _ rfl);(have f7:=S7.out.f 10);(have m7:((w7.setCell ⟨w.heap.size,10,none⟩ (.slice bLs listed.length dLs)).alloc (.cells #[] 63)).cell? ⟨w.heap.size,11,none⟩=some (.slice aMs msgs.length cMs):=(World.cell?_alloc_lt _ _ _ ((S7.out.own.own _ (List.mem_cons_self ..)).lt w.heap.size rfl).2).trans (bx.cell S7.out.own (List.mem_cons_self ..) rfl));obtain ⟨v8,w8,hrun8,⟨bMs,nMs,dMs,rfl⟩,rMs,bMsw⟩:=AMs.out _ S7.out.bel;(have hlMs:nMs=msgs.length:=by (obtain ⟨_,_,e,-⟩:=row_slice rMs;injection e));subst hlMs;simp only [World.size_setCell] at hrun8;clear hrun7 rLs bLsw AMs)
   | (at_builtin;refine Lib.wpList_append_run _ rfl _ _ _ _ rfl _ _ rfl rfl _ _ hrun8 ?_;(have S8:Hid (Stp w.heap.size w w8 w.heap.size (w.heap.size+1) [.int .u64 (pos:Int),.int .u64 (done:Int),.int .u64 (made:Int),.slice bDe procs.length dDe,.slice bIn insts.length dIn,.slice bTk tokens.length dTk,.slice bJb jobs.length dJb,.slice bTm timers.length dTm,.slice bSb subs.length dSb,.slice bKp kept.length dKp,.slice bLs listed.length dLs,.slice aMs msgs.length cMs] ([Ms.rw (.slice bMs msgs.length dMs) msgs]++([Ls.rw (.slice bLs listed.length dLs) listed]++([Kp.rw (.slice bKp kept.length dKp) kept]++([Sb.rw (.slice bSb subs.length dSb) subs]++([Tm.rw (.slice bTm timers.length dTm) timers]++([Jb.rw (.slice bJb jobs.length dJb) jobs]++([Tk.rw (.slice bTk tokens.length dTk) tokens]++([In.rw (.slice bIn insts.length dIn) insts]++([De.rw (.slice bDe procs.length dDe) procs]++[]))))))))) 11 (.slice bMs msgs.length dMs)):=Stp.of S7.out.own S7.out.bel (Nat.le_refl _) bMsw (Own.single (r:=Ms.rw (.slice bMs msgs.length dMs) msgs) rMs) 11 _);(have q8:=S8.out.c 11 _ rfl);(have f8:=S8.out.f 11);clear hrun8 rMs bMsw))
 have HJ:Hid (∃M:List In,M.length=insts.length∧M.map In.e=insts.map In.e∧M.drop 0=insts.drop 0∧Own w.heap.size (w8.setCell ⟨w.heap.size,11,none⟩ (.slice bMs msgs.length dMs)) (In.rw (.slice bIn insts.length dIn) M::((M.take 0).map In.r++((bx w.heap.size [.int .u64 (pos:Int),.int .u64 (done:Int),.int .u64 (made:Int),.slice bDe procs.length dDe,.slice bIn insts.length dIn,.slice bTk tokens.length dTk,.slice bJb jobs.length dJb,.slice bTm timers.length dTm,.slice bSb subs.length dSb,.slice bKp kept.length dKp,.slice bLs listed.length dLs,.slice bMs msgs.length dMs])::(bx (w.heap.size+1) zs)::(De.rw (.slice bDe procs.length dDe) procs)::(Tk.rw (.slice bTk tokens.length dTk) tokens)::(Jb.rw (.slice bJb jobs.length dJb) jobs)::(Tm.rw (.slice bTm timers.length dTm) timers)::(Sb.rw (.slice bSb subs.length dSb) subs)::(Kp.rw (.slice bKp kept.length dKp) kept)::(Ls.rw (.slice bLs listed.length dLs) listed)::(Ms.rw (.slice bMs msgs.length dMs) msgs)::[])))∧Below w.heap.size w (w8.setCell ⟨w.heap.size,11,none⟩ (.slice bMs msgs.length dMs))):=by
   refine ⟨insts,rfl,rfl,rfl,?_,S8.out.bel⟩
   refine S8.out.own.perm (perm_ac fun x=>?_)
   simp only [List.take_zero,List.map_nil,List.nil_append,List.count_append,List.count_cons,List.count_nil,Nat.zero_add,Nat.add_zero]
   ac_rfl
 clear q0 f0 S0 q1 f1 S1 q2 f2 S2 q3 f3 S3 q4 f4 S4 q5 f5 S5 q6 f6 S6 q7 f7 S7 q8 f8 S8 m0 m1 m2 m3 m4 m5 m6 m7 H0
 generalize (w8.setCell ⟨w.heap.size,11,none⟩ (.slice bMs msgs.length dMs))=W1 at *
 have hnIn:insts.length≤4611686018427387904:=by have:=HZ.out.nIn;simp only at this;omega
 have hnLs:listed.length≤4611686018427387904:=by have:=HZ.out.nLs;simp only at this;omega
 have hnMs:msgs.length≤4611686018427387904:=by have:=HZ.out.nMs;simp only at this;omega
 go_loopw [3] (fun v3 wr=>∃i:Nat,v3=.int .i64 (i:Int)∧i≤insts.length∧Hid (∃M:List In,M.length=insts.length∧M.map In.e=insts.map In.e∧M.drop i=insts.drop i∧Own w.heap.size wr (In.rw (.slice bIn insts.length dIn) M::((M.take i).map In.r++((bx w.heap.size [.int .u64 (pos:Int),.int .u64 (done:Int),.int .u64 (made:Int),.slice bDe procs.length dDe,.slice bIn insts.length dIn,.slice bTk tokens.length dTk,.slice bJb jobs.length dJb,.slice bTm timers.length dTm,.slice bSb subs.length dSb,.slice bKp kept.length dKp,.slice bLs listed.length dLs,.slice bMs msgs.length dMs])::(bx (w.heap.size+1) zs)::(De.rw (.slice bDe procs.length dDe) procs)::(Tk.rw (.slice bTk tokens.length dTk) tokens)::(Jb.rw (.slice bJb jobs.length dJb) jobs)::(Tm.rw (.slice bTm timers.length dTm) timers)::(Sb.rw (.slice bSb subs.length dSb) subs)::(Kp.rw (.slice bKp kept.length dKp) kept)::(Ls.rw (.slice bLs listed.length dLs) listed)::(Ms.rw (.slice bMs msgs.length dMs) msgs)::[])))∧Below w.heap.size w wr)) (fun v3 _=>insts.length-(intOf v3).toNat)
 case atStart=>exact ⟨0,rfl,Nat.zero_le _,HJ.out⟩
 case round =>
   obtain ⟨i,rfl,hi,HW⟩:=hrel
   have c4:wr.cell? ⟨w.heap.size,4,none⟩=some (.slice bIn insts.length dIn):=by
     obtain ⟨M,-,-,-,hO,-⟩:=HW.out
     exact bx.cell (sb:=w.heap.size) (cs:=[.int .u64 (pos:Int),.int .u64 (done:Int),.int .u64 (made:Int),.slice bDe procs.length dDe,.slice bIn insts.length dIn,.slice bTk tokens.length dTk,.slice bJb jobs.length dJb,.slice bTm timers.length dTm,.slice bSb subs.length dSb,.slice bKp kept.length dKp,.slice bLs listed.length dLs,.slice bMs msgs.length dMs]) hO (by simp only [List.mem_cons,List.mem_append,true_or,or_true]) rfl
   by_cases hil:i<insts.length
   · as_aux_lemma =>
       obtain ⟨M,hM,hMe,hMd,hO,hbl⟩:=HW.out
       have hil':(i:Int)<(insts.length:Int):=by omega
       have hi0:(0:Int)≤(i:Int):=by omega
       have hiM:i<M.length:=by omega
       have hmi:M[i]=insts[i]:=at_drop hMd hiM hil
       have hrow:wr.ownsRow w.heap.size 58 3 (.slice bIn insts.length dIn) M.length (M.flatMap In.c):=hO.own _ (List.mem_cons_self ..)
       rw [hM] at hrow
       obtain ⟨g,cap,e1,-⟩:=row_any hrow (by omega)
       injection e1 with e1 _ e2
       subst e1 e2
       have hcv:wr.cell? ⟨g,i*3+2,none⟩=some insts[i].vv:=row_cell hrow (by rw [fm_get In.k _ i 2 (by omega),List.getElem?_eq_getElem hiM,hmi];rfl)
       have hfv:=row_fro hrow (i*3+2)
       have CW:Hid (∀W,Below wr.heap.size wr W→Calls Tryz.prog 21 #[insts[i].vv] W fun e w'=>∃v',e=.returned v'∧w'.ownsRow W.heap.size 95 4 v' insts[i].vars.length (insts[i].vars.flatMap Vr.c)∧Below W.heap.size W w'):=fun W hW=>dOwn_any ((HH.out.iIn _ (List.getElem_mem hil)).up (bel_of hbl hW (Nat.le_refl _))) (HZ.out.mIn _ (List.getElem_mem hil))
       obtain ⟨ia,ip,hiv,-⟩:=HH.out.iIn _ (List.getElem_mem hil)
       have HN:Hid (∀vq w1,Below wr.heap.size wr w1→w1.ownsRow wr.heap.size 95 4 vq insts[i].vars.length (insts[i].vars.flatMap Vr.c)→∃M:List In,M.length=insts.length∧M.map In.e=insts.map In.e∧M.drop (i+1)=insts.drop (i+1)∧Own w.heap.size (w1.setCell ⟨g,i*3+2,none⟩ vq) (In.rw (.slice (some ⟨g,0,none⟩) insts.length dIn) M::((M.take (i+1)).map In.r++((bx w.heap.size [.int .u64 (pos:Int),.int .u64 (done:Int),.int .u64 (made:Int),.slice bDe procs.length dDe,.slice (some ⟨g,0,none⟩) insts.length dIn,.slice bTk tokens.length dTk,.slice bJb jobs.length dJb,.slice bTm timers.length dTm,.slice bSb subs.length dSb,.slice bKp kept.length dKp,.slice bLs listed.length dLs,.slice bMs msgs.length dMs])::(bx (w.heap.size+1) zs)::(De.rw (.slice bDe procs.length dDe) procs)::(Tk.rw (.slice bTk tokens.length dTk) tokens)::(Jb.rw (.slice bJb jobs.length dJb) jobs)::(Tm.rw (.slice bTm timers.length dTm) timers)::(Sb.rw (.slice bSb subs.length dSb) subs)::(Kp.rw (.slice bKp kept.length dKp) kept)::(Ls.rw (.slice bLs listed.length dLs) listed)::(Ms.rw (.slice bMs msgs.length dMs) msgs)::[])))∧Below w.heap.size w (w1.setCell ⟨g,i*3+2,none⟩ vq)):=by
         intro vq w1 hb1 hr1
         have hO':Own w.heap.size wr (⟨58,3,.slice (some ⟨g,0,none⟩) insts.length dIn,insts.length,M.flatMap In.c⟩::((M.take i).map In.r++((bx w.heap.size [.int .u64 (pos:Int),.int .u64 (done:Int),.int .u64 (made:Int),.slice bDe procs.length dDe,.slice (some ⟨g,0,none⟩) insts.length dIn,.slice bTk tokens.length dTk,.slice bJb jobs.length dJb,.slice bTm timers.length dTm,.slice bSb subs.length dSb,.slice bKp kept.length dKp,.slice bLs listed.length dLs,.slice bMs msgs.length dMs])::(bx (w.heap.size+1) zs)::(De.rw (.slice bDe procs.length dDe) procs)::(Tk.rw (.slice bTk tokens.length dTk) tokens)::(Jb.rw (.slice bJb jobs.length dJb) jobs)::(Tm.rw (.slice bTm timers.length dTm) timers)::(Sb.rw (.slice bSb subs.length dSb) subs)::(Kp.rw (.slice bKp kept.length dKp) kept)::(Ls.rw (.slice bLs listed.length dLs) listed)::(Ms.rw (.slice bMs msgs.length dMs) msgs)::[]))):=by unfold In.rw at hO;rw [hM] at hO;exact hO
         obtain ⟨k1,k2⟩:=Own.step (c:=In.c) In.k (rr:=In.r) (q:=In.r { insts[i] with vv:=vq }) hO' hiM hb1 hr1 hbl.size { insts[i] with vv:=vq } rfl (j:=2) (by omega) (by rw [hmi];rfl)
         have e9:In.rw (.slice (some ⟨g,0,none⟩) insts.length dIn) (M.set i { insts[i] with vv:=vq })=⟨58,3,.slice (some ⟨g,0,none⟩) insts.length dIn,insts.length,(M.set i { insts[i] with vv:=vq }).flatMap In.c⟩:=by unfold In.rw;rw [List.length_set,hM]
         exact ⟨M.set i { insts[i] with vv:=vq },by rw [List.length_set];exact hM,set_e hMe hil rfl,set_drop hMd _,by rw [e9];exact k1,hbl.trans k2⟩
       rw [hiv] at hcv CW
       have HC4:Hid (∀W,Below wr.heap.size wr W→W.cell? ⟨w.heap.size,4,none⟩=some (.slice (some ⟨g,0,none⟩) insts.length dIn)):=fun W hW=>(hW.cell (p:=⟨w.heap.size,4,none⟩) (World.block_lt_of_cell? _ _ c4)).trans c4
       have HGV:Hid (∀W,Below wr.heap.size wr W→W.cell? ⟨g,i*3+2,none⟩=some (.slice ia insts[i].vars.length ip)∧W.frozen? ⟨g,i*3+2,none⟩=false):=fun W hW=>⟨(hW.cell (p:=⟨g,i*3+2,none⟩) (World.block_lt_of_cell? _ _ hcv)).trans hcv,(hW.frozen (p:=⟨g,i*3+2,none⟩) (World.block_lt_of_cell? _ _ hcv)).trans hfv⟩
       clear hrow hmi hO hMd hMe HW hbl hiv HH HZ HJ
       generalize insts[i].vars.length=nv at *
       go_wp2
       go_region_with (go_at_call 21;refine (CW.out _ (by first | exact Below.refl _ _ | exact (Below.refl _ _).drew)).mono ?_;rintro e w2 ⟨v2,rfl,r2,b2⟩;(have hX:Below wr.heap.size wr w2:=⟨b2.os,b2.tape,b2.output,b2.size,b2.block⟩);obtain ⟨a2,c2,e2,-⟩:=row_slice r2;subst e2;obtain ⟨z1,z2⟩:=HGV.out w2 hX;(have z4:=HC4.out w2 hX);(have HQ:Hid _:=HN.out _ w2 hX r2);clear r2 b2)
       all_goals
         go_wp2
         go_roundw
         case rel=>exact ⟨i+1,by simp,by omega,HQ.out⟩
         case measure=>simp [intOf];omega
   · as_aux_lemma =>
       have hil':¬(i:Int)<(insts.length:Int):=by omega
       obtain ⟨MIn,hM,hEIn,-,hO,hbl⟩:=HW.out
       have hi2:i=insts.length:=by omega
       have htk:MIn.take i=MIn:=by rw [hi2,← hM,List.take_length]
       rw [htk] at hO
       have HJ2:Hid (∃M:List Ls,M.length=listed.length∧M.map Ls.e=listed.map Ls.e∧M.drop 0=listed.drop 0∧Own w.heap.size wr (Ls.rw (.slice bLs listed.length dLs) M::((M.take 0).map Ls.r++((MIn.map In.r)++((In.rw (.slice bIn insts.length dIn) MIn)::(bx w.heap.size [.int .u64 (pos:Int),.int .u64 (done:Int),.int .u64 (made:Int),.slice bDe procs.length dDe,.slice bIn insts.length dIn,.slice bTk tokens.length dTk,.slice bJb jobs.length dJb,.slice bTm timers.length dTm,.slice bSb subs.length dSb,.slice bKp kept.length dKp,.slice bLs listed.length dLs,.slice bMs msgs.length dMs])::(bx (w.heap.size+1) zs)::(De.rw (.slice bDe procs.length dDe) procs)::(Tk.rw (.slice bTk tokens.length dTk) tokens)::(Jb.rw (.slice bJb jobs.length dJb) jobs)::(Tm.rw (.slice bTm timers.length dTm) timers)::(Sb.rw (.slice bSb subs.length dSb) subs)::(Kp.rw (.slice bKp kept.length dKp) kept)::(Ms.rw (.slice bMs msgs.length dMs) msgs)::[]))))∧Below w.heap.size w wr):=by
         refine ⟨listed,rfl,rfl,rfl,?_,hbl⟩
         refine hO.perm (perm_ac fun x=>?_)
         simp only [List.take_zero,List.map_nil,List.nil_append,List.count_append,List.count_cons,List.count_nil,Nat.zero_add]
         ac_rfl
       have HEIn:Hid (MIn.map In.e=insts.map In.e∧MIn.length=insts.length):=⟨hEIn,hM⟩
       clear hO hbl htk hi2 hil hi hEIn hM HW HJ
       have HJ:=HJ2
       clear HJ2
       generalize wr=wa0 at *
       go_upto_region 14 with (fail)
       clear c4 hil'
       go_cut [4] from 6 (fun v3 wx=>v3=.int .i64 0∧wx=wa0)
       case first =>
         go_wp2
         go_meet
         case rel=>exact ⟨rfl,rfl⟩
       obtain ⟨rfl,rfl⟩:=hcut
       go_wp2
       go_loopw [4] (fun v3 wr=>∃i:Nat,v3=.int .i64 (i:Int)∧i≤listed.length∧Hid (∃M:List Ls,M.length=listed.length∧M.map Ls.e=listed.map Ls.e∧M.drop i=listed.drop i∧Own w.heap.size wr (Ls.rw (.slice bLs listed.length dLs) M::((M.take i).map Ls.r++((MIn.map In.r)++((In.rw (.slice bIn insts.length dIn) MIn)::(bx w.heap.size [.int .u64 (pos:Int),.int .u64 (done:Int),.int .u64 (made:Int),.slice bDe procs.length dDe,.slice bIn insts.length dIn,.slice bTk tokens.length dTk,.slice bJb jobs.length dJb,.slice bTm timers.length dTm,.slice bSb subs.length dSb,.slice bKp kept.length dKp,.slice bLs listed.length dLs,.slice bMs msgs.length dMs])::(bx (w.heap.size+1) zs)::(De.rw (.slice bDe procs.length dDe) procs)::(Tk.rw (.slice bTk tokens.length dTk) tokens)::(Jb.rw (.slice bJb jobs.length dJb) jobs)::(Tm.rw (.slice bTm timers.length dTm) timers)::(Sb.rw (.slice bSb subs.length dSb) subs)::(Kp.rw (.slice bKp kept.length dKp) kept)::(Ms.rw (.slice bMs msgs.length dMs) msgs)::[]))))∧Below w.heap.size w wr)) (fun v3 _=>listed.length-(intOf v3).toNat)
       case atStart=>exact ⟨0,rfl,Nat.zero_le _,HJ.out⟩
       case round =>
         obtain ⟨i,rfl,hi,HW⟩:=hrel
         have c4:wr.cell? ⟨w.heap.size,10,none⟩=some (.slice bLs listed.length dLs):=by
           obtain ⟨M,-,-,-,hO,-⟩:=HW.out
           exact bx.cell (sb:=w.heap.size) (cs:=[.int .u64 (pos:Int),.int .u64 (done:Int),.int .u64 (made:Int),.slice bDe procs.length dDe,.slice bIn insts.length dIn,.slice bTk tokens.length dTk,.slice bJb jobs.length dJb,.slice bTm timers.length dTm,.slice bSb subs.length dSb,.slice bKp kept.length dKp,.slice bLs listed.length dLs,.slice bMs msgs.length dMs]) hO (by simp only [List.mem_cons,List.mem_append,true_or,or_true]) rfl
         by_cases hil:i<listed.length
         · as_aux_lemma =>
             obtain ⟨M,hM,hMe,hMd,hO,hbl⟩:=HW.out
             have hil':(i:Int)<(listed.length:Int):=by omega
             have hi0:(0:Int)≤(i:Int):=by omega
             have hiM:i<M.length:=by omega
             have hmi:M[i]=listed[i]:=at_drop hMd hiM hil
             have hrow:wr.ownsRow w.heap.size 60 7 (.slice bLs listed.length dLs) M.length (M.flatMap Ls.c):=hO.own _ (List.mem_cons_self ..)
             rw [hM] at hrow
             obtain ⟨g,cap,e1,-⟩:=row_any hrow (by omega)
             injection e1 with e1 _ e2
             subst e1 e2
             have hcv:wr.cell? ⟨g,i*7+6,none⟩=some listed[i].vv:=row_cell hrow (by rw [fm_get Ls.k _ i 6 (by omega),List.getElem?_eq_getElem hiM,hmi];rfl)
             have hfv:=row_fro hrow (i*7+6)
             have CW:Hid (∀W,Below wr.heap.size wr W→Calls Tryz.prog 21 #[listed[i].vv] W fun e w'=>∃v',e=.returned v'∧w'.ownsRow W.heap.size 95 4 v' listed[i].vars.length (listed[i].vars.flatMap Vr.c)∧Below W.heap.size W w'):=fun W hW=>dOwn_any ((HH.out.iLs _ (List.getElem_mem hil)).up (bel_of hbl hW (Nat.le_refl _))) (HZ.out.mLs _ (List.getElem_mem hil))
             obtain ⟨ia,ip,hiv,-⟩:=HH.out.iLs _ (List.getElem_mem hil)
             have HN:Hid (∀vq w1,Below wr.heap.size wr w1→w1.ownsRow wr.heap.size 95 4 vq listed[i].vars.length (listed[i].vars.flatMap Vr.c)→∃M:List Ls,M.length=listed.length∧M.map Ls.e=listed.map Ls.e∧M.drop (i+1)=listed.drop (i+1)∧Own w.heap.size (w1.setCell ⟨g,i*7+6,none⟩ vq) (Ls.rw (.slice (some ⟨g,0,none⟩) listed.length dLs) M::((M.take (i+1)).map Ls.r++((MIn.map In.r)++((In.rw (.slice bIn insts.length dIn) MIn)::(bx w.heap.size [.int .u64 (pos:Int),.int .u64 (done:Int),.int .u64 (made:Int),.slice bDe procs.length dDe,.slice bIn insts.length dIn,.slice bTk tokens.length dTk,.slice bJb jobs.length dJb,.slice bTm timers.length dTm,.slice bSb subs.length dSb,.slice bKp kept.length dKp,.slice (some ⟨g,0,none⟩) listed.length dLs,.slice bMs msgs.length dMs])::(bx (w.heap.size+1) zs)::(De.rw (.slice bDe procs.length dDe) procs)::(Tk.rw (.slice bTk tokens.length dTk) tokens)::(Jb.rw (.slice bJb jobs.length dJb) jobs)::(Tm.rw (.slice bTm timers.length dTm) timers)::(Sb.rw (.slice bSb subs.length dSb) subs)::(Kp.rw (.slice bKp kept.length dKp) kept)::(Ms.rw (.slice bMs msgs.length dMs) msgs)::[]))))∧Below w.heap.size w (w1.setCell ⟨g,i*7+6,none⟩ vq)):=by
               intro vq w1 hb1 hr1
               have hO':Own w.heap.size wr (⟨60,7,.slice (some ⟨g,0,none⟩) listed.length dLs,listed.length,M.flatMap Ls.c⟩::((M.take i).map Ls.r++((MIn.map In.r)++((In.rw (.slice bIn insts.length dIn) MIn)::(bx w.heap.size [.int .u64 (pos:Int),.int .u64 (done:Int),.int .u64 (made:Int),.slice bDe procs.length dDe,.slice bIn insts.length dIn,.slice bTk tokens.length dTk,.slice bJb jobs.length dJb,.slice bTm timers.length dTm,.slice bSb subs.length dSb,.slice bKp kept.length dKp,.slice (some ⟨g,0,none⟩) listed.length dLs,.slice bMs msgs.length dMs])::(bx (w.heap.size+1) zs)::(De.rw (.slice bDe procs.length dDe) procs)::(Tk.rw (.slice bTk tokens.length dTk) tokens)::(Jb.rw (.slice bJb jobs.length dJb) jobs)::(Tm.rw (.slice bTm timers.length dTm) timers)::(Sb.rw (.slice bSb subs.length dSb) subs)::(Kp.rw (.slice bKp kept.length dKp) kept)::(Ms.rw (.slice bMs msgs.length dMs) msgs)::[])))):=by unfold Ls.rw at hO;rw [hM] at hO;exact hO
               obtain ⟨k1,k2⟩:=Own.step (c:=Ls.c) Ls.k (rr:=Ls.r) (q:=Ls.r { listed[i] with vv:=vq }) hO' hiM hb1 hr1 hbl.size { listed[i] with vv:=vq } rfl (j:=6) (by omega) (by rw [hmi];rfl)
               have e9:Ls.rw (.slice (some ⟨g,0,none⟩) listed.length dLs) (M.set i { listed[i] with vv:=vq })=⟨60,7,.slice (some ⟨g,0,none⟩) listed.length dLs,listed.length,(M.set i { listed[i] with vv:=vq }).flatMap Ls.c⟩:=by unfold Ls.rw;rw [List.length_set,hM]
               exact ⟨M.set i { listed[i] with vv:=vq },by rw [List.length_set];exact hM,set_e hMe hil rfl,set_drop hMd _,by rw [e9];exact k1,hbl.trans k2⟩
             rw [hiv] at hcv CW
             have HC4:Hid (∀W,Below wr.heap.size wr W→W.cell? ⟨w.heap.size,10,none⟩=some (.slice (some ⟨g,0,none⟩) listed.length dLs)):=fun W hW=>(hW.cell (p:=⟨w.heap.size,10,none⟩) (World.block_lt_of_cell? _ _ c4)).trans c4
             have HGV:Hid (∀W,Below wr.heap.size wr W→W.cell? ⟨g,i*7+6,none⟩=some (.slice ia listed[i].vars.length ip)∧W.frozen? ⟨g,i*7+6,none⟩=false):=fun W hW=>⟨(hW.cell (p:=⟨g,i*7+6,none⟩) (World.block_lt_of_cell? _ _ hcv)).trans hcv,(hW.frozen (p:=⟨g,i*7+6,none⟩) (World.block_lt_of_cell? _ _ hcv)).trans hfv⟩
             clear hrow hmi hO hMd hMe HW hbl hiv HH HZ HJ
             generalize listed[i].vars.length=nv at *
             go_wp2
             go_region_with (go_at_call 21;refine (CW.out _ (by first | exact Below.refl _ _ | exact (Below.refl _ _).drew)).mono ?_;rintro e w2 ⟨v2,rfl,r2,b2⟩;(have hX:Below wr.heap.size wr w2:=⟨b2.os,b2.tape,b2.output,b2.size,b2.block⟩);obtain ⟨a2,c2,e2,-⟩:=row_slice r2;subst e2;obtain ⟨z1,z2⟩:=HGV.out w2 hX;(have z4:=HC4.out w2 hX);(have HQ:Hid _:=HN.out _ w2 hX r2);clear r2 b2)
             all_goals
               go_wp2
               go_roundw
               case rel=>exact ⟨i+1,by simp,by omega,HQ.out⟩
               case measure=>simp [intOf];omega
         · as_aux_lemma =>
             have hil':¬(i:Int)<(listed.length:Int):=by omega
             obtain ⟨MLs,hM,hELs,-,hO,hbl⟩:=HW.out
             have hi2:i=listed.length:=by omega
             have htk:MLs.take i=MLs:=by rw [hi2,← hM,List.take_length]
             rw [htk] at hO
             have HJ2:Hid (∃M:List Ms,M.length=msgs.length∧M.map Ms.e=msgs.map Ms.e∧M.drop 0=msgs.drop 0∧Own w.heap.size wr (Ms.rw (.slice bMs msgs.length dMs) M::((M.take 0).map Ms.r++((M.take 0).map Ms.q++((MLs.map Ls.r)++((MIn.map In.r)++((Ls.rw (.slice bLs listed.length dLs) MLs)::(In.rw (.slice bIn insts.length dIn) MIn)::(bx w.heap.size [.int .u64 (pos:Int),.int .u64 (done:Int),.int .u64 (made:Int),.slice bDe procs.length dDe,.slice bIn insts.length dIn,.slice bTk tokens.length dTk,.slice bJb jobs.length dJb,.slice bTm timers.length dTm,.slice bSb subs.length dSb,.slice bKp kept.length dKp,.slice bLs listed.length dLs,.slice bMs msgs.length dMs])::(bx (w.heap.size+1) zs)::(De.rw (.slice bDe procs.length dDe) procs)::(Tk.rw (.slice bTk tokens.length dTk) tokens)::(Jb.rw (.slice bJb jobs.length dJb) jobs)::(Tm.rw (.slice bTm timers.length dTm) timers)::(Sb.rw (.slice bSb subs.length dSb) subs)::(Kp.rw (.slice bKp kept.length dKp) kept)::[]))))))∧Below w.heap.size w wr):=by
               refine ⟨msgs,rfl,rfl,rfl,?_,hbl⟩
               refine hO.perm (perm_ac fun x=>?_)
               simp only [List.take_zero,List.map_nil,List.nil_append,List.count_append,List.count_cons,List.count_nil,Nat.zero_add]
               ac_rfl
             have HELs:Hid (MLs.map Ls.e=listed.map Ls.e∧MLs.length=listed.length):=⟨hELs,hM⟩
             clear hO hbl htk hi2 hil hi hELs hM HW HJ
             have HJ:=HJ2
             clear HJ2
             generalize wr=wa1 at *
             go_upto_region 18 with (fail)
             clear c4 hil'
             go_cut [5] from 6 (fun v3 wx=>v3=.int .i64 0∧wx=wa1)
             case first =>
               go_wp2
               go_meet
               case rel=>exact ⟨rfl,rfl⟩
             obtain ⟨rfl,rfl⟩:=hcut
             go_wp2
             go_loopw [5] (fun v3 wr=>∃i:Nat,v3=.int .i64 (i:Int)∧i≤msgs.length∧Hid (∃M:List Ms,M.length=msgs.length∧M.map Ms.e=msgs.map Ms.e∧M.drop i=msgs.drop i∧Own w.heap.size wr (Ms.rw (.slice bMs msgs.length dMs) M::((M.take i).map Ms.r++((M.take i).map Ms.q++((MLs.map Ls.r)++((MIn.map In.r)++((Ls.rw (.slice bLs listed.length dLs) MLs)::(In.rw (.slice bIn insts.length dIn) MIn)::(bx w.heap.size [.int .u64 (pos:Int),.int .u64 (done:Int),.int .u64 (made:Int),.slice bDe procs.length dDe,.slice bIn insts.length dIn,.slice bTk tokens.length dTk,.slice bJb jobs.length dJb,.slice bTm timers.length dTm,.slice bSb subs.length dSb,.slice bKp kept.length dKp,.slice bLs listed.length dLs,.slice bMs msgs.length dMs])::(bx (w.heap.size+1) zs)::(De.rw (.slice bDe procs.length dDe) procs)::(Tk.rw (.slice bTk tokens.length dTk) tokens)::(Jb.rw (.slice bJb jobs.length dJb) jobs)::(Tm.rw (.slice bTm timers.length dTm) timers)::(Sb.rw (.slice bSb subs.length dSb) subs)::(Kp.rw (.slice bKp kept.length dKp) kept)::[]))))))∧Below w.heap.size w wr)) (fun v3 _=>msgs.length-(intOf v3).toNat)
             case atStart=>exact ⟨0,rfl,Nat.zero_le _,HJ.out⟩
             case round =>
               obtain ⟨i,rfl,hi,HW⟩:=hrel
               have c4:wr.cell? ⟨w.heap.size,11,none⟩=some (.slice bMs msgs.length dMs):=by
                 obtain ⟨M,-,-,-,hO,-⟩:=HW.out
                 exact bx.cell (sb:=w.heap.size) (cs:=[.int .u64 (pos:Int),.int .u64 (done:Int),.int .u64 (made:Int),.slice bDe procs.length dDe,.slice bIn insts.length dIn,.slice bTk tokens.length dTk,.slice bJb jobs.length dJb,.slice bTm timers.length dTm,.slice bSb subs.length dSb,.slice bKp kept.length dKp,.slice bLs listed.length dLs,.slice bMs msgs.length dMs]) hO (by simp only [List.mem_cons,List.mem_append,true_or,or_true]) rfl
               by_cases hil:i<msgs.length
               · as_aux_lemma =>
                   obtain ⟨M,hM,hMe,hMd,hO,hbl⟩:=HW.out
                   have hil':(i:Int)<(msgs.length:Int):=by omega
                   have hi0:(0:Int)≤(i:Int):=by omega
                   have hiM:i<M.length:=by omega
                   have hmi:M[i]=msgs[i]:=at_drop hMd hiM hil
                   have hrow:wr.ownsRow w.heap.size 63 7 (.slice bMs msgs.length dMs) M.length (M.flatMap Ms.c):=hO.own _ (List.mem_cons_self ..)
                   rw [hM] at hrow
                   obtain ⟨g,cap,e1,-⟩:=row_any hrow (by omega)
                   injection e1 with e1 _ e2
                   subst e1 e2
                   have hcv:wr.cell? ⟨g,i*7+5,none⟩=some msgs[i].vv:=row_cell hrow (by rw [fm_get Ms.k _ i 5 (by omega),List.getElem?_eq_getElem hiM,hmi];rfl)
                   have hfv:=row_fro hrow (i*7+5)
                   have CW:Hid (∀W,Below wr.heap.size wr W→Calls Tryz.prog 21 #[msgs[i].vv] W fun e w'=>∃v',e=.returned v'∧w'.ownsRow W.heap.size 95 4 v' msgs[i].vars.length (msgs[i].vars.flatMap Vr.c)∧Below W.heap.size W w'):=fun W hW=>dOwn_any ((HH.out.iMs _ (List.getElem_mem hil)).up (bel_of hbl hW (Nat.le_refl _))) (HZ.out.mMs _ (List.getElem_mem hil))
                   obtain ⟨ia,ip,hiv,-⟩:=HH.out.iMs _ (List.getElem_mem hil)
                   have hci:wr.cell? ⟨g,i*7+6,none⟩=some msgs[i].iv:=row_cell hrow (by rw [fm_get Ms.k _ i 6 (by omega),List.getElem?_eq_getElem hiM,hmi];rfl)
                   have hO':Own w.heap.size wr (⟨63,7,.slice (some ⟨g,0,none⟩) msgs.length dMs,msgs.length,M.flatMap Ms.c⟩::((M.take i).map Ms.r++((M.take i).map Ms.q++((MLs.map Ls.r)++((MIn.map In.r)++((Ls.rw (.slice bLs listed.length dLs) MLs)::(In.rw (.slice bIn insts.length dIn) MIn)::(bx w.heap.size [.int .u64 (pos:Int),.int .u64 (done:Int),.int .u64 (made:Int),.slice bDe procs.length dDe,.slice bIn insts.length dIn,.slice bTk tokens.length dTk,.slice bJb jobs.length dJb,.slice bTm timers.length dTm,.slice bSb subs.length dSb,.slice bKp kept.length dKp,.slice bLs listed.length dLs,.slice (some ⟨g,0,none⟩) msgs.length dMs])::(bx (w.heap.size+1) zs)::(De.rw (.slice bDe procs.length dDe) procs)::(Tk.rw (.slice bTk tokens.length dTk) tokens)::(Jb.rw (.slice bJb jobs.length dJb) jobs)::(Tm.rw (.slice bTm timers.length dTm) timers)::(Sb.rw (.slice bSb subs.length dSb) subs)::(Kp.rw (.slice bKp kept.length dKp) kept)::[])))))):=by unfold Ms.rw at hO;rw [hM] at hO;exact hO
                   have HN1:Hid (∀vq w1,Below wr.heap.size wr w1→w1.ownsRow wr.heap.size 95 4 vq msgs[i].vars.length (msgs[i].vars.flatMap Vr.c)→∀W,W=(w1.setCell ⟨g,i*7+5,none⟩ vq)→Own w.heap.size W (Ms.rw (.slice (some ⟨g,0,none⟩) msgs.length dMs) (M.set i { msgs[i] with vv:=vq })::Ms.r { msgs[i] with vv:=vq }::((M.take i).map Ms.r++((M.take i).map Ms.q++((MLs.map Ls.r)++((MIn.map In.r)++((Ls.rw (.slice bLs listed.length dLs) MLs)::(In.rw (.slice bIn insts.length dIn) MIn)::(bx w.heap.size [.int .u64 (pos:Int),.int .u64 (done:Int),.int .u64 (made:Int),.slice bDe procs.length dDe,.slice bIn insts.length dIn,.slice bTk tokens.length dTk,.slice bJb jobs.length dJb,.slice bTm timers.length dTm,.slice bSb subs.length dSb,.slice bKp kept.length dKp,.slice bLs listed.length dLs,.slice (some ⟨g,0,none⟩) msgs.length dMs])::(bx (w.heap.size+1) zs)::(De.rw (.slice bDe procs.length dDe) procs)::(Tk.rw (.slice bTk tokens.length dTk) tokens)::(Jb.rw (.slice bJb jobs.length dJb) jobs)::(Tm.rw (.slice bTm timers.length dTm) timers)::(Sb.rw (.slice bSb subs.length dSb) subs)::(Kp.rw (.slice bKp kept.length dKp) kept)::[]))))))∧Below w.heap.size wr W):=by
                     intro vq w1 hb1 hr1 W hW
                     subst hW
                     obtain ⟨k1,k2⟩:=Own.cellRow (c:=Ms.c) Ms.k (r:=Ms.r { msgs[i] with vv:=vq }) hO' hiM hb1 hr1 hbl.size { msgs[i] with vv:=vq } (j:=5) (by omega) (by rw [hmi];rfl)
                     have e9:Ms.rw (.slice (some ⟨g,0,none⟩) msgs.length dMs) (M.set i { msgs[i] with vv:=vq })=⟨63,7,.slice (some ⟨g,0,none⟩) msgs.length dMs,msgs.length,(M.set i { msgs[i] with vv:=vq }).flatMap Ms.c⟩:=by unfold Ms.rw;rw [List.length_set,hM]
                     exact ⟨by rw [e9];exact k1,k2⟩
                   have HN2:Hid (∀vq W,Own w.heap.size W (Ms.rw (.slice (some ⟨g,0,none⟩) msgs.length dMs) (M.set i { msgs[i] with vv:=vq })::Ms.r { msgs[i] with vv:=vq }::((M.take i).map Ms.r++((M.take i).map Ms.q++((MLs.map Ls.r)++((MIn.map In.r)++((Ls.rw (.slice bLs listed.length dLs) MLs)::(In.rw (.slice bIn insts.length dIn) MIn)::(bx w.heap.size [.int .u64 (pos:Int),.int .u64 (done:Int),.int .u64 (made:Int),.slice bDe procs.length dDe,.slice bIn insts.length dIn,.slice bTk tokens.length dTk,.slice bJb jobs.length dJb,.slice bTm timers.length dTm,.slice bSb subs.length dSb,.slice bKp kept.length dKp,.slice bLs listed.length dLs,.slice (some ⟨g,0,none⟩) msgs.length dMs])::(bx (w.heap.size+1) zs)::(De.rw (.slice bDe procs.length dDe) procs)::(Tk.rw (.slice bTk tokens.length dTk) tokens)::(Jb.rw (.slice bJb jobs.length dJb) jobs)::(Tm.rw (.slice bTm timers.length dTm) timers)::(Sb.rw (.slice bSb subs.length dSb) subs)::(Kp.rw (.slice bKp kept.length dKp) kept)::[]))))))∧Below w.heap.size wr W→∀iq w1,Below W.heap.size W w1→w1.ownsRow W.heap.size 22 1 iq msgs[i].its.length (msgs[i].its.flatMap Un.c)→∃M:List Ms,M.length=msgs.length∧M.map Ms.e=msgs.map Ms.e∧M.drop (i+1)=msgs.drop (i+1)∧Own w.heap.size (w1.setCell ⟨g,i*7+6,none⟩ iq) (Ms.rw (.slice (some ⟨g,0,none⟩) msgs.length dMs) M::((M.take (i+1)).map Ms.r++((M.take (i+1)).map Ms.q++((MLs.map Ls.r)++((MIn.map In.r)++((Ls.rw (.slice bLs listed.length dLs) MLs)::(In.rw (.slice bIn insts.length dIn) MIn)::(bx w.heap.size [.int .u64 (pos:Int),.int .u64 (done:Int),.int .u64 (made:Int),.slice bDe procs.length dDe,.slice bIn insts.length dIn,.slice bTk tokens.length dTk,.slice bJb jobs.length dJb,.slice bTm timers.length dTm,.slice bSb subs.length dSb,.slice bKp kept.length dKp,.slice bLs listed.length dLs,.slice (some ⟨g,0,none⟩) msgs.length dMs])::(bx (w.heap.size+1) zs)::(De.rw (.slice bDe procs.length dDe) procs)::(Tk.rw (.slice bTk tokens.length dTk) tokens)::(Jb.rw (.slice bJb jobs.length dJb) jobs)::(Tm.rw (.slice bTm timers.length dTm) timers)::(Sb.rw (.slice bSb subs.length dSb) subs)::(Kp.rw (.slice bKp kept.length dKp) kept)::[]))))))∧Below w.heap.size w (w1.setCell ⟨g,i*7+6,none⟩ iq)):=by
                     intro vq W ⟨hO2,hb2⟩ iq w1 hb1 hr1
                     have hO3:Own w.heap.size W (⟨63,7,.slice (some ⟨g,0,none⟩) msgs.length dMs,msgs.length,(M.set i { msgs[i] with vv:=vq }).flatMap Ms.c⟩::Ms.r { msgs[i] with vv:=vq }::((M.take i).map Ms.r++((M.take i).map Ms.q++((MLs.map Ls.r)++((MIn.map In.r)++((Ls.rw (.slice bLs listed.length dLs) MLs)::(In.rw (.slice bIn insts.length dIn) MIn)::(bx w.heap.size [.int .u64 (pos:Int),.int .u64 (done:Int),.int .u64 (made:Int),.slice bDe procs.length dDe,.slice bIn insts.length dIn,.slice bTk tokens.length dTk,.slice bJb jobs.length dJb,.slice bTm timers.length dTm,.slice bSb subs.length dSb,.slice bKp kept.length dKp,.slice bLs listed.length dLs,.slice (some ⟨g,0,none⟩) msgs.length dMs])::(bx (w.heap.size+1) zs)::(De.rw (.slice bDe procs.length dDe) procs)::(Tk.rw (.slice bTk tokens.length dTk) tokens)::(Jb.rw (.slice bJb jobs.length dJb) jobs)::(Tm.rw (.slice bTm timers.length dTm) timers)::(Sb.rw (.slice bSb subs.length dSb) subs)::(Kp.rw (.slice bKp kept.length dKp) kept)::[])))))):=by unfold Ms.rw at hO2;rw [List.length_set,hM] at hO2;exact hO2
                     obtain ⟨k1,k2⟩:=Own.cellRow (c:=Ms.c) Ms.k (r:=Ms.q { msgs[i] with vv:=vq,iv:=iq }) hO3 (by rw [List.length_set];exact hiM) hb1 hr1 (Nat.le_trans hbl.size hb2.size) { msgs[i] with vv:=vq,iv:=iq } (j:=6) (by omega) (by rw [List.getElem_set_self];rfl)
                     have e9:Ms.rw (.slice (some ⟨g,0,none⟩) msgs.length dMs) ((M.set i { msgs[i] with vv:=vq }).set i { msgs[i] with vv:=vq,iv:=iq })=⟨63,7,.slice (some ⟨g,0,none⟩) msgs.length dMs,msgs.length,((M.set i { msgs[i] with vv:=vq }).set i { msgs[i] with vv:=vq,iv:=iq }).flatMap Ms.c⟩:=by unfold Ms.rw;rw [List.length_set,List.length_set,hM]
                     refine ⟨(M.set i { msgs[i] with vv:=vq }).set i { msgs[i] with vv:=vq,iv:=iq },by rw [List.length_set,List.length_set];exact hM,by rw [List.set_set];exact set_e hMe hil rfl,by rw [List.set_set];exact set_drop hMd _,?_,(hbl.trans hb2).trans k2⟩
                     rw [e9]
                     refine k1.perm (List.Perm.cons _ ?_)
                     have ht:((M.set i { msgs[i] with vv:=vq }).set i { msgs[i] with vv:=vq,iv:=iq }).take (i+1)=M.take i++[{ msgs[i] with vv:=vq,iv:=iq }]:=by
                       rw [List.set_set,List.take_succ_eq_append_getElem (by rw [List.length_set];exact hiM),List.getElem_set_self,List.take_set_of_le (by omega)]
                     rw [ht]
                     refine perm_ac fun x=>?_
                     simp only [List.map_append,List.map_cons,List.map_nil,List.count_append,List.count_cons,List.count_nil,Nat.zero_add]
                     have:Ms.r { msgs[i] with vv:=vq,iv:=iq }=Ms.r { msgs[i] with vv:=vq }:=rfl
                     rw [this]
                     ac_rfl
                   have hrI:Hid (∀vq W,Own w.heap.size W (Ms.rw (.slice (some ⟨g,0,none⟩) msgs.length dMs) (M.set i { msgs[i] with vv:=vq })::Ms.r { msgs[i] with vv:=vq }::((M.take i).map Ms.r++((M.take i).map Ms.q++((MLs.map Ls.r)++((MIn.map In.r)++((Ls.rw (.slice bLs listed.length dLs) MLs)::(In.rw (.slice bIn insts.length dIn) MIn)::(bx w.heap.size [.int .u64 (pos:Int),.int .u64 (done:Int),.int .u64 (made:Int),.slice bDe procs.length dDe,.slice bIn insts.length dIn,.slice bTk tokens.length dTk,.slice bJb jobs.length dJb,.slice bTm timers.length dTm,.slice bSb subs.length dSb,.slice bKp kept.length dKp,.slice bLs listed.length dLs,.slice (some ⟨g,0,none⟩) msgs.length dMs])::(bx (w.heap.size+1) zs)::(De.rw (.slice bDe procs.length dDe) procs)::(Tk.rw (.slice bTk tokens.length dTk) tokens)::(Jb.rw (.slice bJb jobs.length dJb) jobs)::(Tm.rw (.slice bTm timers.length dTm) timers)::(Sb.rw (.slice bSb subs.length dSb) subs)::(Kp.rw (.slice bKp kept.length dKp) kept)::[]))))))∧Below w.heap.size wr W→W.cell? ⟨w.heap.size,11,none⟩=some (.slice (some ⟨g,0,none⟩) msgs.length dMs)∧W.cell? ⟨g,i*7+6,none⟩=some msgs[i].iv∧W.frozen? ⟨g,i*7+6,none⟩=false):=by
                     intro vq W ⟨hO2,_⟩
                     have hr2:W.ownsRow w.heap.size 63 7 (.slice (some ⟨g,0,none⟩) msgs.length dMs) msgs.length ((M.set i { msgs[i] with vv:=vq }).flatMap Ms.c):=by
                       have:=hO2.own _ (List.mem_cons_self ..)
                       unfold Ms.rw at this
                       rw [List.length_set,hM] at this
                       exact this
                     exact ⟨bx.cell (sb:=w.heap.size) (cs:=[.int .u64 (pos:Int),.int .u64 (done:Int),.int .u64 (made:Int),.slice bDe procs.length dDe,.slice bIn insts.length dIn,.slice bTk tokens.length dTk,.slice bJb jobs.length dJb,.slice bTm timers.length dTm,.slice bSb subs.length dSb,.slice bKp kept.length dKp,.slice bLs listed.length dLs,.slice (some ⟨g,0,none⟩) msgs.length dMs]) hO2 (by simp only [List.mem_cons,List.mem_append,true_or,or_true]) rfl,row_cell hr2 (by rw [fm_get Ms.k _ i 6 (by omega),List.getElem?_eq_getElem (by rw [List.length_set];exact hiM),List.getElem_set_self];rfl),row_fro hr2 _⟩
                   obtain ⟨ja,jp,hjv,-⟩:=HH.out.qMs _ (List.getElem_mem hil)
                   have HIt:Hid (∀W,Below wr.heap.size wr W∨Below w.heap.size wr W→Rr 1 Un.c W (.slice ja msgs[i].its.length jp) msgs[i].its):=by
                     intro W hW
                     have hb:Below w.heap.size w W:=by
                       rcases hW with hW | hW
                       · exact bel_of hbl hW (Nat.le_refl _)
                       · exact hbl.trans hW
                     have:=(HH.out.qMs _ (List.getElem_mem hil)).up hb
                     rw [hjv] at this
                     exact this
                   have hki:msgs[i].its.length*8≤211106232528000:=HZ.out.kMs _ (List.getElem_mem hil)
                   rw [hiv] at hcv CW
                   rw [hjv] at hrI
                   have HC4:Hid (∀W,Below wr.heap.size wr W→W.cell? ⟨w.heap.size,11,none⟩=some (.slice (some ⟨g,0,none⟩) msgs.length dMs)):=fun W hW=>(hW.cell (p:=⟨w.heap.size,11,none⟩) (World.block_lt_of_cell? _ _ c4)).trans c4
                   have HGV:Hid (∀W,Below wr.heap.size wr W→W.cell? ⟨g,i*7+5,none⟩=some (.slice ia msgs[i].vars.length ip)∧W.frozen? ⟨g,i*7+5,none⟩=false):=fun W hW=>⟨(hW.cell (p:=⟨g,i*7+5,none⟩) (World.block_lt_of_cell? _ _ hcv)).trans hcv,(hW.frozen (p:=⟨g,i*7+5,none⟩) (World.block_lt_of_cell? _ _ hcv)).trans hfv⟩
                   clear hrow hmi hO hO' hMd hMe HW hbl hiv HH HZ HJ hci hjv
                   generalize msgs[i].vars.length=nv at *
                   go_upto_region 21 with (fail)
                   go_cut [] from 89 to 120 (fun wx=>∃vq:Value,Own w.heap.size wx (Ms.rw (.slice (some ⟨g,0,none⟩) msgs.length dMs) (M.set i { msgs[i] with vv:=vq })::Ms.r { msgs[i] with vv:=vq }::((M.take i).map Ms.r++((M.take i).map Ms.q++((MLs.map Ls.r)++((MIn.map In.r)++((Ls.rw (.slice bLs listed.length dLs) MLs)::(In.rw (.slice bIn insts.length dIn) MIn)::(bx w.heap.size [.int .u64 (pos:Int),.int .u64 (done:Int),.int .u64 (made:Int),.slice bDe procs.length dDe,.slice bIn insts.length dIn,.slice bTk tokens.length dTk,.slice bJb jobs.length dJb,.slice bTm timers.length dTm,.slice bSb subs.length dSb,.slice bKp kept.length dKp,.slice bLs listed.length dLs,.slice (some ⟨g,0,none⟩) msgs.length dMs])::(bx (w.heap.size+1) zs)::(De.rw (.slice bDe procs.length dDe) procs)::(Tk.rw (.slice bTk tokens.length dTk) tokens)::(Jb.rw (.slice bJb jobs.length dJb) jobs)::(Tm.rw (.slice bTm timers.length dTm) timers)::(Sb.rw (.slice bSb subs.length dSb) subs)::(Kp.rw (.slice bKp kept.length dKp) kept)::[]))))))∧Below w.heap.size wr wx)
                   case first =>
                     go_region_with (go_at_call 21;refine (CW.out _ (by first | exact Below.refl _ _ | exact (Below.refl _ _).drew)).mono ?_;rintro e w2 ⟨v2,rfl,r2,b2⟩;(have hX:Below wr.heap.size wr w2:=⟨b2.os,b2.tape,b2.output,b2.size,b2.block⟩);obtain ⟨a2,c2,e2,-⟩:=row_slice r2;subst e2;obtain ⟨z1,z2⟩:=HGV.out w2 hX;(have z4:=HC4.out w2 hX);(have HQ:Hid _:=HN1.out _ w2 hX r2);clear r2 b2 hX)
                     all_goals
                       go_wp2_with fail
                       go_meet
                       case rel=>exact ⟨_,HQ.out _ rfl⟩
                   all_goals
                     obtain ⟨vq,hI1⟩:=hcut
                     have HI1:Hid (_∧_):=hI1
                     obtain ⟨f1,f2,f3⟩:=hrI.out _ _ hI1
                     have hIt:=HIt.out _ (.inr hI1.2)
                     obtain ⟨v3,w3,hrun,⟨b3,n3,c3,rfl⟩,r3,bel3⟩:=lit_app2 (W:=wc) Un.k (by decide) Tryz.underlying61 infoUn rfl rfl hIt Un.one (by omega) (by omega) 61
                     have HQ2:Hid _:=HN2.out _ _ hI1 _ w3 bel3 r3
                     have u1:=(World.cell?_alloc_lt _ (.cells #[] 22) _ (World.block_lt_of_cell? _ _ f1)).trans f1
                     have u2:=(World.cell?_alloc_lt _ (.cells #[] 22) _ (World.block_lt_of_cell? _ _ f2)).trans f2
                     have y1:=(bel3.cell (p:=⟨w.heap.size,11,none⟩) (World.block_lt_of_cell? _ _ f1)).trans f1
                     have y2:=(bel3.cell (p:=⟨g,i*7+6,none⟩) (World.block_lt_of_cell? _ _ f2)).trans f2
                     have y3:=(bel3.frozen (p:=⟨g,i*7+6,none⟩) (World.block_lt_of_cell? _ _ f2)).trans f3
                     clear r3 bel3 hIt hI1 HI1 hrI HIt HN2 HN1 CW HC4 HGV hcv hfv c4
                     go_wp2
                     go_region_law (refine step_app (by rfl) _ _ _ _ (by rfl) _ _ _ _ (by rfl) (by rfl) hrun ?_)
                     all_goals
                       go_wp2
                       go_roundw
                       case rel=>exact ⟨i+1,by simp,by omega,HQ2.out⟩
                       case measure=>simp [intOf];omega
               · as_aux_lemma =>
                   have hil':¬(i:Int)<(msgs.length:Int):=by omega
                   obtain ⟨MMs,hM,hEMs,-,hO,hbl⟩:=HW.out
                   have hi2:i=msgs.length:=by omega
                   have htk:MMs.take i=MMs:=by rw [hi2,← hM,List.take_length]
                   rw [htk] at hO
                   have hO2:Own w.heap.size wr (bx w.heap.size [.int .u64 (pos:Int),.int .u64 (done:Int),.int .u64 (made:Int),.slice bDe procs.length dDe,.slice bIn insts.length dIn,.slice bTk tokens.length dTk,.slice bJb jobs.length dJb,.slice bTm timers.length dTm,.slice bSb subs.length dSb,.slice bKp kept.length dKp,.slice bLs listed.length dLs,.slice bMs msgs.length dMs]::bx (w.heap.size+1) zs::((((De.rw (.slice bDe procs.length dDe) procs)::(In.rw (.slice bIn insts.length dIn) MIn)::(Tk.rw (.slice bTk tokens.length dTk) tokens)::(Jb.rw (.slice bJb jobs.length dJb) jobs)::(Tm.rw (.slice bTm timers.length dTm) timers)::(Sb.rw (.slice bSb subs.length dSb) subs)::(Kp.rw (.slice bKp kept.length dKp) kept)::(Ls.rw (.slice bLs listed.length dLs) MLs)::(Ms.rw (.slice bMs msgs.length dMs) MMs)::[]))++(MIn.map In.r++(MLs.map Ls.r++(MMs.map Ms.r++MMs.map Ms.q))))):=by
                     refine hO.perm (perm_ac fun x=>?_)
                     simp only [List.count_append,List.count_cons,List.count_nil,Nat.zero_add]
                     ac_rfl
                   have x0:=bx.cell hO2 (List.mem_cons_self ..) (j:=0) rfl
                   have x1:=bx.cell hO2 (List.mem_cons_self ..) (j:=1) rfl
                   have x2:=bx.cell hO2 (List.mem_cons_self ..) (j:=2) rfl
                   have x3:=bx.cell hO2 (List.mem_cons_self ..) (j:=3) rfl
                   have x4:=bx.cell hO2 (List.mem_cons_self ..) (j:=4) rfl
                   have x5:=bx.cell hO2 (List.mem_cons_self ..) (j:=5) rfl
                   have x6:=bx.cell hO2 (List.mem_cons_self ..) (j:=6) rfl
                   have x7:=bx.cell hO2 (List.mem_cons_self ..) (j:=7) rfl
                   have x8:=bx.cell hO2 (List.mem_cons_self ..) (j:=8) rfl
                   have x9:=bx.cell hO2 (List.mem_cons_self ..) (j:=9) rfl
                   have x10:=bx.cell hO2 (List.mem_cons_self ..) (j:=10) rfl
                   have x11:=bx.cell hO2 (List.mem_cons_self ..) (j:=11) rfl
                   have HE:Hid (MIn.map In.e=insts.map In.e∧MLs.map Ls.e=listed.map Ls.e∧MMs.map Ms.e=msgs.map Ms.e):=⟨HEIn.out.1,HELs.out.1,hEMs⟩
                   have hgz:wr.heap[w.heap.size+1]?=some (.cells zs.toArray 33 (0,0)):=bx.obj hO2 (List.mem_cons_of_mem _ (List.mem_cons_self ..))
                   have HG:Hid (wr.heap[w.heap.size+1]?=some (.cells zs.toArray 33 (0,0))):=hgz
                   have hF:=ret12 hO2 hbl (Nat.le_refl _) (.int .u64 (pos:Int)) (.int .u64 (done:Int)) (.int .u64 (made:Int)) (.slice bDe procs.length dDe) (.slice bIn insts.length dIn) (.slice bTk tokens.length dTk) (.slice bJb jobs.length dJb) (.slice bTm timers.length dTm) (.slice bSb subs.length dSb) (.slice bKp kept.length dKp) (.slice bLs listed.length dLs) (.slice bMs msgs.length dMs)
                   rw [set12_row hgz] at hF
                   have HOn:Hid ((#[.int .u64 (pos:Int),.int .u64 (done:Int),.int .u64 (made:Int),.slice bDe procs.length dDe,.slice bIn insts.length dIn,.slice bTk tokens.length dTk,.slice bJb jobs.length dJb,.slice bTm timers.length dTm,.slice bSb subs.length dSb,.slice bKp kept.length dKp,.slice bLs listed.length dLs,.slice bMs msgs.length dMs]:Array Value).all (·.oneCell')=true):=by show _=_;simp [Value.oneCell']
                   have HF:Hid (_∧_):=hF
                   clear hF hgz
                   clear hO hO2 hbl htk hi2 hil hi hEMs hM HW HJ HEIn HELs HH HZ hnIn hnLs hnMs
                   generalize wr=wz at *
                   go_wp2_with (refine wpList_store_row rfl 33 _ _ rfl (w.heap.size+1) #[.int .u64 (pos:Int),.int .u64 (done:Int),.int .u64 (made:Int),.slice bDe procs.length dDe,.slice bIn insts.length dIn,.slice bTk tokens.length dTk,.slice bJb jobs.length dJb,.slice bTm timers.length dTm,.slice bSb subs.length dSb,.slice bKp kept.length dKp,.slice bLs listed.length dLs,.slice bMs msgs.length dMs] rfl rfl 33 zs.toArray HG.out size12 rfl HOn.out ?_)
                   obtain ⟨hg,hO,hB⟩:=HF.out
                   refine bodyPost_ret (results_cell_row rfl _ _ (w.heap.size+1) 33 _ (0,0) _ rfl hg Tryz.underlying33 rfl size12) rfl ?_
                   refine ⟨⟨pos,done,made,.slice bDe procs.length dDe,procs,.slice bIn insts.length dIn,MIn,.slice bTk tokens.length dTk,tokens,.slice bJb jobs.length dJb,jobs,.slice bTm timers.length dTm,timers,.slice bSb subs.length dSb,subs,.slice bKp kept.length dKp,kept,.slice bLs listed.length dLs,MLs,.slice bMs msgs.length dMs,MMs⟩,rfl,?_,?_,hB⟩
                   · refine hO.perm (perm_ac fun x=>?_)
                     simp only [St.rows,St.main,St.inner,List.count_append,List.count_cons,List.count_nil,Nat.zero_add]
                   · simp only [St.e,HE.out.1,HE.out.2.1,HE.out.2.2]
end Go.Proofs.YtgklemopmiabcaaGreat.f13
