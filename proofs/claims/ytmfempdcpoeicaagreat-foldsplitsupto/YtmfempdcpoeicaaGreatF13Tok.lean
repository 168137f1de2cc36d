/-
  Package fold's first, and Token, Job: the first element of a key.
-/
import Derived.Test.YtmfempdcpoeicaaGreatF13Ap1
import Derived.Laws.ResultCell
set_option maxHeartbeats 1000000
set_option maxRecDepth 100000
namespace Go.Proofs.YtmfempdcpoeicaaGreat.f13
open Go.RowKit Go.Shelf Go.Sort
open Go.Lib hiding intOf

def setTk (W:World) (g:Nat) (c0 c1 c2 c3 c4 c5:Value):World:=((((((W.setCell ⟨g,0,none⟩ c0).setCell ⟨g,1,none⟩ c1).setCell ⟨g,2,none⟩ c2).setCell ⟨g,3,none⟩ c3).setCell ⟨g,4,none⟩ c4).setCell ⟨g,5,none⟩ c5)
theorem setTk_obj {W:World} {g:Nat} {t:TypeId} {z0 z1 z2 z3 z4 z5:Value} (c0 c1 c2 c3 c4 c5:Value) (h:W.heap[g]?=some (.cells #[z0,z1,z2,z3,z4,z5] t (0,0))):(setTk W g c0 c1 c2 c3 c4 c5).heap[g]?=some (.cells #[c0,c1,c2,c3,c4,c5] t (0,0)):=(heap_setCell_same _ g 5 _ _ c5 (heap_setCell_same _ g 4 _ _ c4 (heap_setCell_same _ g 3 _ _ c3 (heap_setCell_same _ g 2 _ _ c2 (heap_setCell_same _ g 1 _ _ c1 (heap_setCell_same _ g 0 _ _ c0 h))))))
theorem setTk_ch (W:World) (g:Nat) (c0 c1 c2 c3 c4 c5:Value):Ch (fun b=>b=g) W (setTk W g c0 c1 c2 c3 c4 c5):=(((((((Ch.refl (fun b=>b=g) W).setCell ⟨g,0,none⟩ c0 (fun _=>rfl)).setCell ⟨g,1,none⟩ c1 (fun _=>rfl)).setCell ⟨g,2,none⟩ c2 (fun _=>rfl)).setCell ⟨g,3,none⟩ c3 (fun _=>rfl)).setCell ⟨g,4,none⟩ c4 (fun _=>rfl)).setCell ⟨g,5,none⟩ c5 (fun _=>rfl))
theorem sizeTk:(Tryz.prog.info? 44).map (·.size)=some 6:=by kernel_rfl

theorem ret_two {P:Program} {fn:Func} {p u:Tmp} {ty:TypeId} (h:fn.results=#[.cell p ty,.tmp u]) (tmps:Array Value) (w:World) (g:Nat) (t:TypeId) (cs:Array Value) (fr:Nat × Nat) (d:TypeDesc) (hp:tmps.getD p undef=.pointer (some ⟨g,0,none⟩)) (hg:w.heap[g]?=some (.cells cs t fr)) (hu:P.underlying ty=some d) (hd:(match d with | .struct _ | .array _ _=>true | _=>false)=true) (hi:(P.info? ty).map (·.size)=some cs.size):(results fn tmps).run P w=.ok (.tuple #[.agg cs,tmps.getD u undef]) w:=by
 rw [results_cell_tmp h,hp]
 simp [asAddr,run_loadVar_row w g t ty cs fr d hg hu hd hi]
def fstTk (q:Tk→Bool) (l:List Tk):Tk × Bool:=match l.find? q with
 | some x=>(x,true)
 | none=>(⟨0,0,0,0,0,[]⟩,false)
theorem find_of {α:Type} {q:α→Bool} {l:List α} {i:Nat} (h:l.findIdx? q=some i):∃hi:i<l.length,l.find? q=some l[i]:=by
 obtain ⟨hi,h1,h2⟩:=List.findIdx?_eq_some_iff_getElem.1 h
 refine ⟨hi,?_⟩
 rw [List.find?_eq_some_iff_getElem]
 exact ⟨h1,i,hi,rfl,fun j hj=>by have:=h2 j hj;simpa using this⟩
theorem find_no {α:Type} {q:α→Bool} {l:List α} (h:l.findIdx? q=none):l.find? q=none:=by
 rw [List.findIdx?_eq_none_iff] at h
 rw [List.find?_eq_none]
 exact fun x hx=>by simp [h x hx]
theorem firstTk_any {X : Nat → Prop} {w : World} {v : Value} {l : List Tk} {kf : Nat} {caps : Array Value} (q : Tk → Bool) (hv : Rr 6 Tk.c w v l) (hn : l.length ≤ 4611686018427387904) (ek : Ent0 kf) (hq : ∀ x ∈ l, Say X w kf caps #[.agg (Tk.c x).toArray] (q x)) :
   Calls Tryz.prog 38 #[v,.func (.func kf) #[] caps] w fun e w'=>e=.returned (.tuple #[.agg (Tk.c (fstTk q l).1).toArray,.bool (fstTk q l).2])∧Below w.heap.size w w':=by
 have hb0:Below w.heap.size w (w.alloc (.cells #[.int .u64 0,.int .u64 0,.int .u64 0,.int .i64 0,.int .i64 0,.string ⟨#[]⟩] 44)):=(Below.refl _ w).alloc nlr _
 have CI:=indexTk_any q (hv.up hb0) hn ek (fun x hx=>(hq x hx).ch (Ch.of_below hb0))
 have HV:Hid (Rr 6 Tk.c w v l):=hv
 have HB:Hid (Below w.heap.size w (w.alloc (.cells #[.int .u64 0,.int .u64 0,.int .u64 0,.int .i64 0,.int .i64 0,.string ⟨#[]⟩] 44))):=hb0
 obtain ⟨a,cap,rfl,-⟩:=hv
 clear hq ek hb0
 cases hF:l.findIdx? q with
 | none =>
   have e0:fix q l = -1:=by unfold fix;rw [hF]
   have HE:Hid (fstTk q l=(⟨0,0,0,0,0,[]⟩,false)):=by show _=_;unfold fstTk;rw [find_no hF]
   rw [e0] at CI
   have hneg:¬(0:Int)≤-1:=by omega
   clear hF e0
   go_enter Tryz.func38,Tryz.ntmps38
   go_wp2_with (go_at_call 67;refine CI.mono ?_;rintro e w1 ⟨rfl,b1⟩;(have B1:Hid (Below w.heap.size w w1):=bel_of HB.out b1 nlr);(have hob:w1.heap[w.heap.size]?=some (.cells #[.int .u64 0,.int .u64 0,.int .u64 0,.int .i64 0,.int .i64 0,.string ⟨#[]⟩] 44 (0,0)):=(b1.block _ (by simp)).trans (heap_alloc_new w _));(have HO:Hid _:=hob);(have m0:w1.cell? ⟨w.heap.size,0,none⟩=some (.int .u64 0):=by simp [World.cell?,hob]);(have f0:w1.frozen? ⟨w.heap.size,0,none⟩=false:=by simp [World.frozen?,hob]);(have m1:w1.cell? ⟨w.heap.size,1,none⟩=some (.int .u64 0):=by simp [World.cell?,hob]);(have f1:w1.frozen? ⟨w.heap.size,1,none⟩=false:=by simp [World.frozen?,hob]);(have m2:w1.cell? ⟨w.heap.size,2,none⟩=some (.int .u64 0):=by simp [World.cell?,hob]);(have f2:w1.frozen? ⟨w.heap.size,2,none⟩=false:=by simp [World.frozen?,hob]);(have m3:w1.cell? ⟨w.heap.size,3,none⟩=some (.int .i64 0):=by simp [World.cell?,hob]);(have f3:w1.frozen? ⟨w.heap.size,3,none⟩=false:=by simp [World.frozen?,hob]);(have m4:w1.cell? ⟨w.heap.size,4,none⟩=some (.int .i64 0):=by simp [World.cell?,hob]);(have f4:w1.frozen? ⟨w.heap.size,4,none⟩=false:=by simp [World.frozen?,hob]);(have m5:w1.cell? ⟨w.heap.size,5,none⟩=some (.string ⟨#[]⟩):=by simp [World.cell?,hob]);(have f5:w1.frozen? ⟨w.heap.size,5,none⟩=false:=by simp [World.frozen?,hob]);(have hl1:w.heap.size<w1.heap.size:=by (have:=b1.size;simp at this;omega));clear b1 CI hob)
   rw [HE.out]
   have hfin:Below w.heap.size w ((setTk w1 w.heap.size (.int .u64 0) (.int .u64 0) (.int .u64 0) (.int .i64 0) (.int .i64 0) (.string ⟨#[]⟩)).alloc (.cells #[.int .u64 0,.int .u64 0,.int .u64 0,.int .i64 0,.int .i64 0,.string ⟨#[]⟩] 44)):=B1.out.trans (((setTk_ch w1 w.heap.size (.int .u64 0) (.int .u64 0) (.int .u64 0) (.int .i64 0) (.int .i64 0) (.string ⟨#[]⟩)).alloc _).below B1.out.size (fun g hg e=>by omega))
   refine bodyPost_ret (ret_two rfl _ _ w.heap.size 44 #[.int .u64 0,.int .u64 0,.int .u64 0,.int .i64 0,.int .i64 0,.string ⟨#[]⟩] (0,0) _ rfl ((brf.alloc nlr _ |>.block _ (by simpa using hl1)).trans (setTk_obj (W:=w1) (.int .u64 0) (.int .u64 0) (.int .u64 0) (.int .i64 0) (.int .i64 0) (.string ⟨#[]⟩) HO.out)) Tryz.underlying44 rfl sizeTk) rfl ?_
   exact ⟨rfl,hfin⟩
 | some i =>
   have e0:fix q l=(i:Int):=by unfold fix;rw [hF]
   obtain ⟨hi,hfi⟩:=find_of hF
   have HE:Hid (fstTk q l=(l[i],true)):=by show _=_;unfold fstTk;rw [hfi]
   rw [e0] at CI
   have hi0:(0:Int)≤(i:Int):=by omega
   have hil:(i:Int)<(l.length:Int):=by omega
   obtain ⟨b',off,cap',hsl,-,hbl,hcell⟩:=HV.out.at hi
   obtain ⟨rfl,rfl⟩:a=some ⟨b',off,none⟩∧cap=cap':=by injection hsl with e1 _ e2;exact ⟨e1,e2⟩
   have HC:Hid (∀w',Below w.heap.size w w'→w'.cell? ⟨b',off+i*6+0,none⟩=some (.int .u64 (l[i].key:Int))∧w'.cell? ⟨b',off+i*6+1,none⟩=some (.int .u64 (l[i].inst:Int))∧w'.cell? ⟨b',off+i*6+2,none⟩=some (.int .u64 (l[i].scope:Int))∧w'.cell? ⟨b',off+i*6+3,none⟩=some (.int .i64 l[i].node)∧w'.cell? ⟨b',off+i*6+4,none⟩=some (.int .i64 l[i].flow)∧w'.cell? ⟨b',off+i*6+5,none⟩=some (.string (S l[i].stuck))):=fun w' hw'=>⟨hcell w' hw' i hi 0 _ rfl,hcell w' hw' i hi 1 _ rfl,hcell w' hw' i hi 2 _ rfl,hcell w' hw' i hi 3 _ rfl,hcell w' hw' i hi 4 _ rfl,hcell w' hw' i hi 5 _ rfl⟩
   rw [HE.out]
   clear hF e0 hcell hfi HE hsl
   generalize l[i]=x at *
   obtain ⟨x0,x1,x2,x3,x4,x5⟩:=x
   simp only [Tk.c] at HC ⊢
   go_enter Tryz.func38,Tryz.ntmps38
   go_wp2_with (go_at_call 67;refine CI.mono ?_;rintro e w1 ⟨rfl,b1⟩;(have B1:Hid (Below w.heap.size w w1):=bel_of HB.out b1 nlr);(have hob:w1.heap[w.heap.size]?=some (.cells #[.int .u64 0,.int .u64 0,.int .u64 0,.int .i64 0,.int .i64 0,.string ⟨#[]⟩] 44 (0,0)):=(b1.block _ (by simp)).trans (heap_alloc_new w _));(have HO:Hid _:=hob);(have m0:w1.cell? ⟨w.heap.size,0,none⟩=some (.int .u64 0):=by simp [World.cell?,hob]);(have f0:w1.frozen? ⟨w.heap.size,0,none⟩=false:=by simp [World.frozen?,hob]);(have m1:w1.cell? ⟨w.heap.size,1,none⟩=some (.int .u64 0):=by simp [World.cell?,hob]);(have f1:w1.frozen? ⟨w.heap.size,1,none⟩=false:=by simp [World.frozen?,hob]);(have m2:w1.cell? ⟨w.heap.size,2,none⟩=some (.int .u64 0):=by simp [World.cell?,hob]);(have f2:w1.frozen? ⟨w.heap.size,2,none⟩=false:=by simp [World.frozen?,hob]);(have m3:w1.cell? ⟨w.heap.size,3,none⟩=some (.int .i64 0):=by simp [World.cell?,hob]);(have f3:w1.frozen? ⟨w.heap.size,3,none⟩=false:=by simp [World.frozen?,hob]);(have m4:w1.cell? ⟨w.heap.size,4,none⟩=some (.int .i64 0):=by simp [World.cell?,hob]);(have f4:w1.frozen? ⟨w.heap.size,4,none⟩=false:=by simp [World.frozen?,hob]);(have m5:w1.cell? ⟨w.heap.size,5,none⟩=some (.string ⟨#[]⟩):=by simp [World.cell?,hob]);(have f5:w1.frozen? ⟨w.heap.size,5,none⟩=false:=by simp [World.frozen?,hob]);(have hl1:w.heap.size<w1.heap.size:=by (have:=b1.size;simp at this;omega));obtain ⟨x0c,x1c,x2c,x3c,x4c,x5c⟩:=HC.out w1 B1.out;simp only [Nat.add_zero] at x0c;clear b1 CI hob)
   have hfin:Below w.heap.size w (setTk w1 w.heap.size (.int .u64 (x0:Int)) (.int .u64 (x1:Int)) (.int .u64 (x2:Int)) (.int .i64 x3) (.int .i64 x4) (.string (S x5))):=B1.out.trans ((setTk_ch w1 w.heap.size (.int .u64 (x0:Int)) (.int .u64 (x1:Int)) (.int .u64 (x2:Int)) (.int .i64 x3) (.int .i64 x4) (.string (S x5))).below B1.out.size (fun g hg e=>by omega))
   refine bodyPost_ret (ret_two rfl _ _ w.heap.size 44 #[.int .u64 (x0:Int),.int .u64 (x1:Int),.int .u64 (x2:Int),.int .i64 x3,.int .i64 x4,.string (S x5)] (0,0) _ rfl (setTk_obj (W:=w1) (.int .u64 (x0:Int)) (.int .u64 (x1:Int)) (.int .u64 (x2:Int)) (.int .i64 x3) (.int .i64 x4) (.string (S x5)) HO.out) Tryz.underlying44 rfl sizeTk) rfl ?_
   exact ⟨rfl,hfin⟩
end Go.Proofs.YtmfempdcpoeicaaGreat.f13
