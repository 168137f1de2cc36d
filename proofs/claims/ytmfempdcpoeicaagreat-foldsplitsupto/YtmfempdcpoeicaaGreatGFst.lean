/-
  The first one of a key.
-/
import Derived.Test.YtmfempdcpoeicaaGreatF13Tok
import Derived.Laws.ResultCell
set_option maxHeartbeats 4000000
set_option maxRecDepth 100000
namespace Go.Proofs.YtmfempdcpoeicaaGreat.f13
open Go.RowKit Go.Shelf Go.Sort
open Go.Lib hiding intOf

def setLs (W:World) (g:Nat) (c0 c1 c2 c3 c4 c5 c6:Value):World:=(((((((W.setCell ⟨g,0,none⟩ c0).setCell ⟨g,1,none⟩ c1).setCell ⟨g,2,none⟩ c2).setCell ⟨g,3,none⟩ c3).setCell ⟨g,4,none⟩ c4).setCell ⟨g,5,none⟩ c5).setCell ⟨g,6,none⟩ c6)
theorem setLs_obj {W:World} {g:Nat} {t:TypeId} {z0 z1 z2 z3 z4 z5 z6:Value} (c0 c1 c2 c3 c4 c5 c6:Value) (h:W.heap[g]?=some (.cells #[z0,z1,z2,z3,z4,z5,z6] t (0,0))):(setLs W g c0 c1 c2 c3 c4 c5 c6).heap[g]?=some (.cells #[c0,c1,c2,c3,c4,c5,c6] t (0,0)):=(heap_setCell_same _ g 6 _ _ c6 (heap_setCell_same _ g 5 _ _ c5 (heap_setCell_same _ g 4 _ _ c4 (heap_setCell_same _ g 3 _ _ c3 (heap_setCell_same _ g 2 _ _ c2 (heap_setCell_same _ g 1 _ _ c1 (heap_setCell_same _ g 0 _ _ c0 h)))))))
theorem setLs_ch (W:World) (g:Nat) (c0 c1 c2 c3 c4 c5 c6:Value):Ch (fun b=>b=g) W (setLs W g c0 c1 c2 c3 c4 c5 c6):=((((((((Ch.refl (fun b=>b=g) W).setCell ⟨g,0,none⟩ c0 (fun _=>rfl)).setCell ⟨g,1,none⟩ c1 (fun _=>rfl)).setCell ⟨g,2,none⟩ c2 (fun _=>rfl)).setCell ⟨g,3,none⟩ c3 (fun _=>rfl)).setCell ⟨g,4,none⟩ c4 (fun _=>rfl)).setCell ⟨g,5,none⟩ c5 (fun _=>rfl)).setCell ⟨g,6,none⟩ c6 (fun _=>rfl))
theorem sizeLs:(Tryz.prog.info? 81).map (·.size)=some 7:=by kernel_rfl
def fstLs (q:Ls→Bool) (l:List Ls):Ls × Bool:=match l.find? q with
 | some x=>(x,true)
 | none=>(⟨0,0,0,[],[],0,.slice none 0 0,[]⟩,false)
theorem firstLs_any {X : Nat → Prop} {w : World} {v : Value} {l : List Ls} {kf : Nat} {caps : Array Value} (q : Ls → Bool) (hv : Rr 7 Ls.c w v l) (hn : l.length ≤ 4611686018427387904) (ek : Ent0 kf) (hq : ∀ x ∈ l, Say X w kf caps #[.agg (Ls.c x).toArray] (q x)) (h6 : ∀ x ∈ l, ∃ a n c, x.vv = .slice a n c) :
   Calls Tryz.prog 112 #[v,.func (.func kf) #[] caps] w fun e w'=>e=.returned (.tuple #[.agg (Ls.c (fstLs q l).1).toArray,.bool (fstLs q l).2])∧Below w.heap.size w w':=by
 have hb0:Below w.heap.size w (w.alloc (.cells #[.int .u64 0,.int .u64 0,.int .i64 0,.string ⟨#[]⟩,.string ⟨#[]⟩,.int .u64 0,.slice none 0 0] 81)):=(Below.refl _ w).alloc nlr _
 have CI:=indexLs_any q (hv.up hb0) hn ek (fun x hx=>(hq x hx).ch (Ch.of_below hb0))
 have HV:Hid (Rr 7 Ls.c w v l):=hv
 have HB:Hid (Below w.heap.size w (w.alloc (.cells #[.int .u64 0,.int .u64 0,.int .i64 0,.string ⟨#[]⟩,.string ⟨#[]⟩,.int .u64 0,.slice none 0 0] 81))):=hb0
 obtain ⟨a,cap,rfl,-⟩:=hv
 clear hq ek hb0
 cases hF:l.findIdx? q with
 | none =>
   have e0:fix q l = -1:=by unfold fix;rw [hF]
   have HE:Hid (fstLs q l=(⟨0,0,0,[],[],0,.slice none 0 0,[]⟩,false)):=by show _=_;unfold fstLs;rw [find_no hF]
   rw [e0] at CI
   have hneg:¬(0:Int)≤-1:=by omega
   clear hF e0 h6
   go_enter Tryz.func112,Tryz.ntmps112
   go_wp2_with (go_at_call 161;refine CI.mono ?_;rintro e w1 ⟨rfl,b1⟩;(have B1:Hid (Below w.heap.size w w1):=bel_of HB.out b1 nlr);(have hob:w1.heap[w.heap.size]?=some (.cells #[.int .u64 0,.int .u64 0,.int .i64 0,.string ⟨#[]⟩,.string ⟨#[]⟩,.int .u64 0,.slice none 0 0] 81 (0,0)):=(b1.block _ (by simp)).trans (heap_alloc_new w _));(have HO:Hid _:=hob);(have m0:w1.cell? ⟨w.heap.size,0,none⟩=some (.int .u64 0):=by simp [World.cell?,hob]);(have f0:w1.frozen? ⟨w.heap.size,0,none⟩=false:=by simp [World.frozen?,hob]);(have m1:w1.cell? ⟨w.heap.size,1,none⟩=some (.int .u64 0):=by simp [World.cell?,hob]);(have f1:w1.frozen? ⟨w.heap.size,1,none⟩=false:=by simp [World.frozen?,hob]);(have m2:w1.cell? ⟨w.heap.size,2,none⟩=some (.int .i64 0):=by simp [World.cell?,hob]);(have f2:w1.frozen? ⟨w.heap.size,2,none⟩=false:=by simp [World.frozen?,hob]);(have m3:w1.cell? ⟨w.heap.size,3,none⟩=some (.string ⟨#[]⟩):=by simp [World.cell?,hob]);(have f3:w1.frozen? ⟨w.heap.size,3,none⟩=false:=by simp [World.frozen?,hob]);(have m4:w1.cell? ⟨w.heap.size,4,none⟩=some (.string ⟨#[]⟩):=by simp [World.cell?,hob]);(have f4:w1.frozen? ⟨w.heap.size,4,none⟩=false:=by simp [World.frozen?,hob]);(have m5:w1.cell? ⟨w.heap.size,5,none⟩=some (.int .u64 0):=by simp [World.cell?,hob]);(have f5:w1.frozen? ⟨w.heap.size,5,none⟩=false:=by simp [World.frozen?,hob]);(have m6:w1.cell? ⟨w.heap.size,6,none⟩=some (.slice none 0 0):=by simp [World.cell?,hob]);(have f6:w1.frozen? ⟨w.heap.size,6,none⟩=false:=by simp [World.frozen?,hob]);(have hl1:w.heap.size<w1.heap.size:=by (have:=b1.size;simp at this;omega));clear b1 CI hob)
   rw [HE.out]
   have hfin:Below w.heap.size w ((setLs w1 w.heap.size (.int .u64 0) (.int .u64 0) (.int .i64 0) (.string ⟨#[]⟩) (.string ⟨#[]⟩) (.int .u64 0) (.slice none 0 0)).alloc (.cells #[.int .u64 0,.int .u64 0,.int .i64 0,.string ⟨#[]⟩,.string ⟨#[]⟩,.int .u64 0,.slice none 0 0] 81)):=B1.out.trans (((setLs_ch w1 w.heap.size (.int .u64 0) (.int .u64 0) (.int .i64 0) (.string ⟨#[]⟩) (.string ⟨#[]⟩) (.int .u64 0) (.slice none 0 0)).alloc _).below B1.out.size (fun g hg e=>by omega))
   refine bodyPost_ret (ret_two rfl _ _ w.heap.size 81 #[.int .u64 0,.int .u64 0,.int .i64 0,.string ⟨#[]⟩,.string ⟨#[]⟩,.int .u64 0,.slice none 0 0] (0,0) _ rfl ((brf.alloc nlr _ |>.block _ (by simpa using hl1)).trans (setLs_obj (W:=w1) (.int .u64 0) (.int .u64 0) (.int .i64 0) (.string ⟨#[]⟩) (.string ⟨#[]⟩) (.int .u64 0) (.slice none 0 0) HO.out)) Tryz.underlying81 rfl sizeLs) rfl ?_
   exact ⟨rfl,hfin⟩
 | some i =>
   have e0:fix q l=(i:Int):=by unfold fix;rw [hF]
   obtain ⟨hi,hfi⟩:=find_of hF
   have HE:Hid (fstLs q l=(l[i],true)):=by show _=_;unfold fstLs;rw [hfi]
   rw [e0] at CI
   have hi0:(0:Int)≤(i:Int):=by omega
   have hil:(i:Int)<(l.length:Int):=by omega
   obtain ⟨b',off,cap',hsl,-,hbl,hcell⟩:=HV.out.at hi
   obtain ⟨rfl,rfl⟩:a=some ⟨b',off,none⟩∧cap=cap':=by injection hsl with e1 _ e2;exact ⟨e1,e2⟩
   have HC:Hid (∀w',Below w.heap.size w w'→w'.cell? ⟨b',off+i*7+0,none⟩=some (.int .u64 (l[i].token:Int))∧w'.cell? ⟨b',off+i*7+1,none⟩=some (.int .u64 (l[i].inst:Int))∧w'.cell? ⟨b',off+i*7+2,none⟩=some (.int .i64 l[i].node)∧w'.cell? ⟨b',off+i*7+3,none⟩=some (.string (S l[i].name))∧w'.cell? ⟨b',off+i*7+4,none⟩=some (.string (S l[i].key))∧w'.cell? ⟨b',off+i*7+5,none⟩=some (.int .u64 (l[i].msg:Int))∧w'.cell? ⟨b',off+i*7+6,none⟩=some (l[i].vv)):=fun w' hw'=>⟨hcell w' hw' i hi 0 _ rfl,hcell w' hw' i hi 1 _ rfl,hcell w' hw' i hi 2 _ rfl,hcell w' hw' i hi 3 _ rfl,hcell w' hw' i hi 4 _ rfl,hcell w' hw' i hi 5 _ rfl,hcell w' hw' i hi 6 _ rfl⟩
   obtain ⟨sa6,sn6,sc6,hs6⟩:=h6 _ (List.getElem_mem hi)
   rw [HE.out]
   clear hF e0 hcell hfi HE hsl h6
   generalize l[i]=x at *
   obtain ⟨x0,x1,x2,x3,x4,x5,x6,y6⟩:=x
   simp only at hs6
   subst hs6
   simp only [Ls.c] at HC ⊢
   go_enter Tryz.func112,Tryz.ntmps112
   go_wp2_with (go_at_call 161;refine CI.mono ?_;rintro e w1 ⟨rfl,b1⟩;(have B1:Hid (Below w.heap.size w w1):=bel_of HB.out b1 nlr);(have hob:w1.heap[w.heap.size]?=some (.cells #[.int .u64 0,.int .u64 0,.int .i64 0,.string ⟨#[]⟩,.string ⟨#[]⟩,.int .u64 0,.slice none 0 0] 81 (0,0)):=(b1.block _ (by simp)).trans (heap_alloc_new w _));(have HO:Hid _:=hob);(have m0:w1.cell? ⟨w.heap.size,0,none⟩=some (.int .u64 0):=by simp [World.cell?,hob]);(have f0:w1.frozen? ⟨w.heap.size,0,none⟩=false:=by simp [World.frozen?,hob]);(have m1:w1.cell? ⟨w.heap.size,1,none⟩=some (.int .u64 0):=by simp [World.cell?,hob]);(have f1:w1.frozen? ⟨w.heap.size,1,none⟩=false:=by simp [World.frozen?,hob]);(have m2:w1.cell? ⟨w.heap.size,2,none⟩=some (.int .i64 0):=by simp [World.cell?,hob]);(have f2:w1.frozen? ⟨w.heap.size,2,none⟩=false:=by simp [World.frozen?,hob]);(have m3:w1.cell? ⟨w.heap.size,3,none⟩=some (.string ⟨#[]⟩):=by simp [World.cell?,hob]);(have f3:w1.frozen? ⟨w.heap.size,3,none⟩=false:=by simp [World.frozen?,hob]);(have m4:w1.cell? ⟨w.heap.size,4,none⟩=some (.string ⟨#[]⟩):=by simp [World.cell?,hob]);(have f4:w1.frozen? ⟨w.heap.size,4,none⟩=false:=by simp [World.frozen?,hob]);(have m5:w1.cell? ⟨w.heap.size,5,none⟩=some (.int .u64 0):=by simp [World.cell?,hob]);(have f5:w1.frozen? ⟨w.heap.size,5,none⟩=false:=by simp [World.frozen?,hob]);(have m6:w1.cell? ⟨w.heap.size,6,none⟩=some (.slice none 0 0):=by simp [World.cell?,hob]);(have f6:w1.frozen? ⟨w.heap.size,6,none⟩=false:=by simp [World.frozen?,hob]);(have hl1:w.heap.size<w1.heap.size:=by (have:=b1.size;simp at this;omega));obtain ⟨x0c,x1c,x2c,x3c,x4c,x5c,x6c⟩:=HC.out w1 B1.out;simp only [Nat.add_zero] at x0c;clear b1 CI hob)
   have hfin:Below w.heap.size w (setLs w1 w.heap.size (.int .u64 (x0:Int)) (.int .u64 (x1:Int)) (.int .i64 x2) (.string (S x3)) (.string (S x4)) (.int .u64 (x5:Int)) (.slice sa6 sn6 sc6)):=B1.out.trans ((setLs_ch w1 w.heap.size (.int .u64 (x0:Int)) (.int .u64 (x1:Int)) (.int .i64 x2) (.string (S x3)) (.string (S x4)) (.int .u64 (x5:Int)) (.slice sa6 sn6 sc6)).below B1.out.size (fun g hg e=>by omega))
   refine bodyPost_ret (ret_two rfl _ _ w.heap.size 81 #[.int .u64 (x0:Int),.int .u64 (x1:Int),.int .i64 x2,.string (S x3),.string (S x4),.int .u64 (x5:Int),.slice sa6 sn6 sc6] (0,0) _ rfl (setLs_obj (W:=w1) (.int .u64 (x0:Int)) (.int .u64 (x1:Int)) (.int .i64 x2) (.string (S x3)) (.string (S x4)) (.int .u64 (x5:Int)) (.slice sa6 sn6 sc6) HO.out) Tryz.underlying81 rfl sizeLs) rfl ?_
   exact ⟨rfl,hfin⟩

def setMs (W:World) (g:Nat) (c0 c1 c2 c3 c4 c5 c6:Value):World:=(((((((W.setCell ⟨g,0,none⟩ c0).setCell ⟨g,1,none⟩ c1).setCell ⟨g,2,none⟩ c2).setCell ⟨g,3,none⟩ c3).setCell ⟨g,4,none⟩ c4).setCell ⟨g,5,none⟩ c5).setCell ⟨g,6,none⟩ c6)
theorem setMs_obj {W:World} {g:Nat} {t:TypeId} {z0 z1 z2 z3 z4 z5 z6:Value} (c0 c1 c2 c3 c4 c5 c6:Value) (h:W.heap[g]?=some (.cells #[z0,z1,z2,z3,z4,z5,z6] t (0,0))):(setMs W g c0 c1 c2 c3 c4 c5 c6).heap[g]?=some (.cells #[c0,c1,c2,c3,c4,c5,c6] t (0,0)):=(heap_setCell_same _ g 6 _ _ c6 (heap_setCell_same _ g 5 _ _ c5 (heap_setCell_same _ g 4 _ _ c4 (heap_setCell_same _ g 3 _ _ c3 (heap_setCell_same _ g 2 _ _ c2 (heap_setCell_same _ g 1 _ _ c1 (heap_setCell_same _ g 0 _ _ c0 h)))))))
theorem setMs_ch (W:World) (g:Nat) (c0 c1 c2 c3 c4 c5 c6:Value):Ch (fun b=>b=g) W (setMs W g c0 c1 c2 c3 c4 c5 c6):=((((((((Ch.refl (fun b=>b=g) W).setCell ⟨g,0,none⟩ c0 (fun _=>rfl)).setCell ⟨g,1,none⟩ c1 (fun _=>rfl)).setCell ⟨g,2,none⟩ c2 (fun _=>rfl)).setCell ⟨g,3,none⟩ c3 (fun _=>rfl)).setCell ⟨g,4,none⟩ c4 (fun _=>rfl)).setCell ⟨g,5,none⟩ c5 (fun _=>rfl)).setCell ⟨g,6,none⟩ c6 (fun _=>rfl))
theorem sizeMs:(Tryz.prog.info? 87).map (·.size)=some 7:=by kernel_rfl
def fstMs (q:Ms→Bool) (l:List Ms):Ms × Bool:=match l.find? q with
 | some x=>(x,true)
 | none=>(⟨0,[],[],[],0,.slice none 0 0,.slice none 0 0,[],[]⟩,false)
theorem firstMs_any {X : Nat → Prop} {w : World} {v : Value} {l : List Ms} {kf : Nat} {caps : Array Value} (q : Ms → Bool) (hv : Rr 7 Ms.c w v l) (hn : l.length ≤ 4611686018427387904) (ek : Ent0 kf) (hq : ∀ x ∈ l, Say X w kf caps #[.agg (Ms.c x).toArray] (q x)) (h5 : ∀ x ∈ l, ∃ a n c, x.vv = .slice a n c) (h6 : ∀ x ∈ l, ∃ a n c, x.iv = .slice a n c) :
   Calls Tryz.prog 113 #[v,.func (.func kf) #[] caps] w fun e w'=>e=.returned (.tuple #[.agg (Ms.c (fstMs q l).1).toArray,.bool (fstMs q l).2])∧Below w.heap.size w w':=by
 have hb0:Below w.heap.size w (w.alloc (.cells #[.int .u64 0,.string ⟨#[]⟩,.string ⟨#[]⟩,.string ⟨#[]⟩,.int .i64 0,.slice none 0 0,.slice none 0 0] 87)):=(Below.refl _ w).alloc nlr _
 have CI:=indexMs_any q (hv.up hb0) hn ek (fun x hx=>(hq x hx).ch (Ch.of_below hb0))
 have HV:Hid (Rr 7 Ms.c w v l):=hv
 have HB:Hid (Below w.heap.size w (w.alloc (.cells #[.int .u64 0,.string ⟨#[]⟩,.string ⟨#[]⟩,.string ⟨#[]⟩,.int .i64 0,.slice none 0 0,.slice none 0 0] 87))):=hb0
 obtain ⟨a,cap,rfl,-⟩:=hv
 clear hq ek hb0
 cases hF:l.findIdx? q with
 | none =>
   have e0:fix q l = -1:=by unfold fix;rw [hF]
   have HE:Hid (fstMs q l=(⟨0,[],[],[],0,.slice none 0 0,.slice none 0 0,[],[]⟩,false)):=by show _=_;unfold fstMs;rw [find_no hF]
   rw [e0] at CI
   have hneg:¬(0:Int)≤-1:=by omega
   clear hF e0 h5 h6
   go_enter Tryz.func113,Tryz.ntmps113
   go_wp2_with (go_at_call 164;refine CI.mono ?_;rintro e w1 ⟨rfl,b1⟩;(have B1:Hid (Below w.heap.size w w1):=bel_of HB.out b1 nlr);(have hob:w1.heap[w.heap.size]?=some (.cells #[.int .u64 0,.string ⟨#[]⟩,.string ⟨#[]⟩,.string ⟨#[]⟩,.int .i64 0,.slice none 0 0,.slice none 0 0] 87 (0,0)):=(b1.block _ (by simp)).trans (heap_alloc_new w _));(have HO:Hid _:=hob);(have m0:w1.cell? ⟨w.heap.size,0,none⟩=some (.int .u64 0):=by simp [World.cell?,hob]);(have f0:w1.frozen? ⟨w.heap.size,0,none⟩=false:=by simp [World.frozen?,hob]);(have m1:w1.cell? ⟨w.heap.size,1,none⟩=some (.string ⟨#[]⟩):=by simp [World.cell?,hob]);(have f1:w1.frozen? ⟨w.heap.size,1,none⟩=false:=by simp [World.frozen?,hob]);(have m2:w1.cell? ⟨w.heap.size,2,none⟩=some (.string ⟨#[]⟩):=by simp [World.cell?,hob]);(have f2:w1.frozen? ⟨w.heap.size,2,none⟩=false:=by simp [World.frozen?,hob]);(have m3:w1.cell? ⟨w.heap.size,3,none⟩=some (.string ⟨#[]⟩):=by simp [World.cell?,hob]);(have f3:w1.frozen? ⟨w.heap.size,3,none⟩=false:=by simp [World.frozen?,hob]);(have m4:w1.cell? ⟨w.heap.size,4,none⟩=some (.int .i64 0):=by simp [World.cell?,hob]);(have f4:w1.frozen? ⟨w.heap.size,4,none⟩=false:=by simp [World.frozen?,hob]);(have m5:w1.cell? ⟨w.heap.size,5,none⟩=some (.slice none 0 0):=by simp [World.cell?,hob]);(have f5:w1.frozen? ⟨w.heap.size,5,none⟩=false:=by simp [World.frozen?,hob]);(have m6:w1.cell? ⟨w.heap.size,6,none⟩=some (.slice none 0 0):=by simp [World.cell?,hob]);(have f6:w1.frozen? ⟨w.heap.size,6,none⟩=false:=by simp [World.frozen?,hob]);(have hl1:w.heap.size<w1.heap.size:=by (have:=b1.size;simp at this;omega));clear b1 CI hob)
   rw [HE.out]
   have hfin:Below w.heap.size w ((setMs w1 w.heap.size (.int .u64 0) (.string ⟨#[]⟩) (.string ⟨#[]⟩) (.string ⟨#[]⟩) (.int .i64 0) (.slice none 0 0) (.slice none 0 0)).alloc (.cells #[.int .u64 0,.string ⟨#[]⟩,.string ⟨#[]⟩,.string ⟨#[]⟩,.int .i64 0,.slice none 0 0,.slice none 0 0] 87)):=B1.out.trans (((setMs_ch w1 w.heap.size (.int .u64 0) (.string ⟨#[]⟩) (.string ⟨#[]⟩) (.string ⟨#[]⟩) (.int .i64 0) (.slice none 0 0) (.slice none 0 0)).alloc _).below B1.out.size (fun g hg e=>by omega))
   refine bodyPost_ret (ret_two rfl _ _ w.heap.size 87 #[.int .u64 0,.string ⟨#[]⟩,.string ⟨#[]⟩,.string ⟨#[]⟩,.int .i64 0,.slice none 0 0,.slice none 0 0] (0,0) _ rfl ((brf.alloc nlr _ |>.block _ (by simpa using hl1)).trans (setMs_obj (W:=w1) (.int .u64 0) (.string ⟨#[]⟩) (.string ⟨#[]⟩) (.string ⟨#[]⟩) (.int .i64 0) (.slice none 0 0) (.slice none 0 0) HO.out)) Tryz.underlying87 rfl sizeMs) rfl ?_
   exact ⟨rfl,hfin⟩
 | some i =>
   have e0:fix q l=(i:Int):=by unfold fix;rw [hF]
   obtain ⟨hi,hfi⟩:=find_of hF
   have HE:Hid (fstMs q l=(l[i],true)):=by show _=_;unfold fstMs;rw [hfi]
   rw [e0] at CI
   have hi0:(0:Int)≤(i:Int):=by omega
   have hil:(i:Int)<(l.length:Int):=by omega
   obtain ⟨b',off,cap',hsl,-,hbl,hcell⟩:=HV.out.at hi
   obtain ⟨rfl,rfl⟩:a=some ⟨b',off,none⟩∧cap=cap':=by injection hsl with e1 _ e2;exact ⟨e1,e2⟩
   have HC:Hid (∀w',Below w.heap.size w w'→w'.cell? ⟨b',off+i*7+0,none⟩=some (.int .u64 (l[i].key:Int))∧w'.cell? ⟨b',off+i*7+1,none⟩=some (.string (S l[i].name))∧w'.cell? ⟨b',off+i*7+2,none⟩=some (.string (S l[i].for_))∧w'.cell? ⟨b',off+i*7+3,none⟩=some (.string (S l[i].id))∧w'.cell? ⟨b',off+i*7+4,none⟩=some (.int .i64 l[i].unt)∧w'.cell? ⟨b',off+i*7+5,none⟩=some (l[i].vv)∧w'.cell? ⟨b',off+i*7+6,none⟩=some (l[i].iv)):=fun w' hw'=>⟨hcell w' hw' i hi 0 _ rfl,hcell w' hw' i hi 1 _ rfl,hcell w' hw' i hi 2 _ rfl,hcell w' hw' i hi 3 _ rfl,hcell w' hw' i hi 4 _ rfl,hcell w' hw' i hi 5 _ rfl,hcell w' hw' i hi 6 _ rfl⟩
   obtain ⟨sa5,sn5,sc5,hs5⟩:=h5 _ (List.getElem_mem hi)
   obtain ⟨sa6,sn6,sc6,hs6⟩:=h6 _ (List.getElem_mem hi)
   rw [HE.out]
   clear hF e0 hcell hfi HE hsl h5 h6
   generalize l[i]=x at *
   obtain ⟨x0,x1,x2,x3,x4,x5,x6,y5,y6⟩:=x
   simp only at hs5 hs6
   subst hs5 hs6
   simp only [Ms.c] at HC ⊢
   go_enter Tryz.func113,Tryz.ntmps113
   go_wp2_with (go_at_call 164;refine CI.mono ?_;rintro e w1 ⟨rfl,b1⟩;(have B1:Hid (Below w.heap.size w w1):=bel_of HB.out b1 nlr);(have hob:w1.heap[w.heap.size]?=some (.cells #[.int .u64 0,.string ⟨#[]⟩,.string ⟨#[]⟩,.string ⟨#[]⟩,.int .i64 0,.slice none 0 0,.slice none 0 0] 87 (0,0)):=(b1.block _ (by simp)).trans (heap_alloc_new w _));(have HO:Hid _:=hob);(have m0:w1.cell? ⟨w.heap.size,0,none⟩=some (.int .u64 0):=by simp [World.cell?,hob]);(have f0:w1.frozen? ⟨w.heap.size,0,none⟩=false:=by simp [World.frozen?,hob]);(have m1:w1.cell? ⟨w.heap.size,1,none⟩=some (.string ⟨#[]⟩):=by simp [World.cell?,hob]);(have f1:w1.frozen? ⟨w.heap.size,1,none⟩=false:=by simp [World.frozen?,hob]);(have m2:w1.cell? ⟨w.heap.size,2,none⟩=some (.string ⟨#[]⟩):=by simp [World.cell?,hob]);(have f2:w1.frozen? ⟨w.heap.size,2,none⟩=false:=by simp [World.frozen?,hob]);(have m3:w1.cell? ⟨w.heap.size,3,none⟩=some (.string ⟨#[]⟩):=by simp [World.cell?,hob]);(have f3:w1.frozen? ⟨w.heap.size,3,none⟩=false:=by simp [World.frozen?,hob]);(have m4:w1.cell? ⟨w.heap.size,4,none⟩=some (.int .i64 0):=by simp [World.cell?,hob]);(have f4:w1.frozen? ⟨w.heap.size,4,none⟩=false:=by simp [World.frozen?,hob]);(have m5:w1.cell? ⟨w.heap.size,5,none⟩=some (.slice none 0 0):=by simp [World.cell?,hob]);(have f5:w1.frozen? ⟨w.heap.size,5,none⟩=false:=by simp [World.frozen?,hob]);(have m6:w1.cell? ⟨w.heap.size,6,none⟩=some (.slice none 0 0):=by simp [World.cell?,hob]);(have f6:w1.frozen? ⟨w.heap.size,6,none⟩=false:=by simp [World.frozen?,hob]);(have hl1:w.heap.size<w1.heap.size:=by (have:=b1.size;simp at this;omega));obtain ⟨x0c,x1c,x2c,x3c,x4c,x5c,x6c⟩:=HC.out w1 B1.out;simp only [Nat.add_zero] at x0c;clear b1 CI hob)
   have hfin:Below w.heap.size w (setMs w1 w.heap.size (.int .u64 (x0:Int)) (.string (S x1)) (.string (S x2)) (.string (S x3)) (.int .i64 x4) (.slice sa5 sn5 sc5) (.slice sa6 sn6 sc6)):=B1.out.trans ((setMs_ch w1 w.heap.size (.int .u64 (x0:Int)) (.string (S x1)) (.string (S x2)) (.string (S x3)) (.int .i64 x4) (.slice sa5 sn5 sc5) (.slice sa6 sn6 sc6)).below B1.out.size (fun g hg e=>by omega))
   refine bodyPost_ret (ret_two rfl _ _ w.heap.size 87 #[.int .u64 (x0:Int),.string (S x1),.string (S x2),.string (S x3),.int .i64 x4,.slice sa5 sn5 sc5,.slice sa6 sn6 sc6] (0,0) _ rfl (setMs_obj (W:=w1) (.int .u64 (x0:Int)) (.string (S x1)) (.string (S x2)) (.string (S x3)) (.int .i64 x4) (.slice sa5 sn5 sc5) (.slice sa6 sn6 sc6) HO.out) Tryz.underlying87 rfl sizeMs) rfl ?_
   exact ⟨rfl,hfin⟩
end Go.Proofs.YtmfempdcpoeicaaGreat.f13
