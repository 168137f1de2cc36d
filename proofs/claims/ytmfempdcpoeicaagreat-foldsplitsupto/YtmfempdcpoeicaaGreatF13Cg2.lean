/-
  Package fold's change: of places and of messages.
-/
import Derived.Test.YtmfempdcpoeicaaGreatGStb
set_option maxHeartbeats 1000000
set_option maxRecDepth 100000
namespace Go.Proofs.YtmfempdcpoeicaaGreat.f13
open Go.RowKit Go.Shelf Go.Sort
open Go.Lib hiding intOf

def CgLs (w:World) (q:Ls→Bool) (l:List Ls) (R:World→Nat→World→Prop) (w':World):Prop:=match l.findIdx? q with
 | none=>Below w.heap.size w w'
 | some i=>∃W,Below w.heap.size w W∧R W i w'
theorem changeLs_any {X : Nat → Prop} {w : World} {v : Value} {l : List Ls} {kf kb : Nat} {caps capb : Array Value} (q : Ls → Bool) (R : World → Nat → World → Prop) (hv : Rr 7 Ls.c w v l) (hn : l.length ≤ 4611686018427387904) (ek : Ent0 kf) (hq : ∀ x ∈ l, Say X w kf caps #[.agg (Ls.c x).toArray] (q x)) (eb : Ent0 kb)
   (hb:∀(W:World) (i b off cap:Nat),Below w.heap.size w W→l.findIdx? q=some i→i<l.length→v=.slice (some ⟨b,off,none⟩) l.length cap→Calls Tryz.prog kb (#[.pointer (some ⟨b,off+i*7,none⟩)]++capb) W fun e W'=>e=.returned (.tuple #[])∧R W i W') :
   Calls Tryz.prog 114 #[v,.func (.func kf) #[] caps,.func (.func kb) #[] capb] w fun e w'=>e=.returned (.tuple #[])∧CgLs w q l R w':=by
 have CI:=indexLs_any q hv hn ek hq
 have HB:Hid _:=hb
 have hv0:=hv
 obtain ⟨a,cap,rfl,-⟩:=hv
 unfold Ent0 at eb
 clear hq ek hb
 cases hF:l.findIdx? q with
 | none =>
   have e0:fix q l = -1:=by unfold fix;rw [hF]
   rw [e0] at CI
   have hneg:¬(0:Int)≤-1:=by omega
   have HF:Hid _:=hF
   clear hF e0 HB hv0
   go_enter Tryz.func114,Tryz.ntmps114
   go_wp2_with (go_at_call 161;refine CI.mono ?_;rintro e w1 ⟨rfl,b1⟩;(have B1:Hid (Below w.heap.size w w1):=b1);clear b1 CI)
   go_end0
   refine ⟨rfl,?_⟩
   unfold CgLs
   rw [HF.out]
   exact B1.out
 | some i =>
   have e0:fix q l=(i:Int):=by unfold fix;rw [hF]
   have hi:=(List.findIdx?_eq_some_iff_getElem.1 hF).1
   obtain ⟨b,off,cap',hsl,-,-,-⟩:=hv0.at hi
   obtain ⟨rfl,rfl⟩:a=some ⟨b,off,none⟩∧cap=cap':=by injection hsl with e1 _ e2;exact ⟨e1,e2⟩
   rw [e0] at CI
   have hi0:(0:Int)≤(i:Int):=by omega
   have hil:(i:Int)<(l.length:Int):=by omega
   have HF:Hid _:=hF
   clear hF e0 hsl hv0
   go_enter Tryz.func114,Tryz.ntmps114
   go_wp2_with (go_at_call 161;refine CI.mono ?_;rintro e w1 ⟨rfl,b1⟩;(have B1:Hid (Below w.heap.size w w1):=b1);(have CB:=HB.out w1 i b off cap b1 HF.out hi rfl);clear b1 CI HB)
   refine CB.mono ?_
   rintro e w2 ⟨rfl,hR⟩
   have HR:Hid _:=hR
   clear hR CB
   go_wp2
   go_end0
   refine ⟨rfl,?_⟩
   unfold CgLs
   rw [HF.out]
   exact ⟨w1,B1.out,HR.out⟩

def CgMs (w:World) (q:Ms→Bool) (l:List Ms) (R:World→Nat→World→Prop) (w':World):Prop:=match l.findIdx? q with
 | none=>Below w.heap.size w w'
 | some i=>∃W,Below w.heap.size w W∧R W i w'
theorem changeMs_any {X : Nat → Prop} {w : World} {v : Value} {l : List Ms} {kf kb : Nat} {caps capb : Array Value} (q : Ms → Bool) (R : World → Nat → World → Prop) (hv : Rr 7 Ms.c w v l) (hn : l.length ≤ 4611686018427387904) (ek : Ent0 kf) (hq : ∀ x ∈ l, Say X w kf caps #[.agg (Ms.c x).toArray] (q x)) (eb : Ent0 kb)
   (hb:∀(W:World) (i b off cap:Nat),Below w.heap.size w W→l.findIdx? q=some i→i<l.length→v=.slice (some ⟨b,off,none⟩) l.length cap→Calls Tryz.prog kb (#[.pointer (some ⟨b,off+i*7,none⟩)]++capb) W fun e W'=>e=.returned (.tuple #[])∧R W i W') :
   Calls Tryz.prog 116 #[v,.func (.func kf) #[] caps,.func (.func kb) #[] capb] w fun e w'=>e=.returned (.tuple #[])∧CgMs w q l R w':=by
 have CI:=indexMs_any q hv hn ek hq
 have HB:Hid _:=hb
 have hv0:=hv
 obtain ⟨a,cap,rfl,-⟩:=hv
 unfold Ent0 at eb
 clear hq ek hb
 cases hF:l.findIdx? q with
 | none =>
   have e0:fix q l = -1:=by unfold fix;rw [hF]
   rw [e0] at CI
   have hneg:¬(0:Int)≤-1:=by omega
   have HF:Hid _:=hF
   clear hF e0 HB hv0
   go_enter Tryz.func116,Tryz.ntmps116
   go_wp2_with (go_at_call 164;refine CI.mono ?_;rintro e w1 ⟨rfl,b1⟩;(have B1:Hid (Below w.heap.size w w1):=b1);clear b1 CI)
   go_end0
   refine ⟨rfl,?_⟩
   unfold CgMs
   rw [HF.out]
   exact B1.out
 | some i =>
   have e0:fix q l=(i:Int):=by unfold fix;rw [hF]
   have hi:=(List.findIdx?_eq_some_iff_getElem.1 hF).1
   obtain ⟨b,off,cap',hsl,-,-,-⟩:=hv0.at hi
   obtain ⟨rfl,rfl⟩:a=some ⟨b,off,none⟩∧cap=cap':=by injection hsl with e1 _ e2;exact ⟨e1,e2⟩
   rw [e0] at CI
   have hi0:(0:Int)≤(i:Int):=by omega
   have hil:(i:Int)<(l.length:Int):=by omega
   have HF:Hid _:=hF
   clear hF e0 hsl hv0
   go_enter Tryz.func116,Tryz.ntmps116
   go_wp2_with (go_at_call 164;refine CI.mono ?_;rintro e w1 ⟨rfl,b1⟩;(have B1:Hid (Below w.heap.size w w1):=b1);(have CB:=HB.out w1 i b off cap b1 HF.out hi rfl);clear b1 CI HB)
   refine CB.mono ?_
   rintro e w2 ⟨rfl,hR⟩
   have HR:Hid _:=hR
   clear hR CB
   go_wp2
   go_end0
   refine ⟨rfl,?_⟩
   unfold CgMs
   rw [HF.out]
   exact ⟨w1,B1.out,HR.out⟩
end Go.Proofs.YtmfempdcpoeicaaGreat.f13
