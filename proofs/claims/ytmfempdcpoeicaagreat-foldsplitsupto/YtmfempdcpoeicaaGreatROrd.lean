/-
  Lists of entries by rising keys; words for memory.
-/
import Derived.Test.YtmfempdcpoeicaaGreatProg
import Derived.WalkKit
import Derived.WalkSpells
import Derived.Lib.Walk
import Derived.BigQuiet
import Derived.Deep.QuietTactic
import Derived.Deep.RegionHeld3
import Derived.Maps.AppendAt
import Derived.Laws.NewBlocks
import Derived.Laws.AppendOwnNone
import Derived.Lib.AppendZerosOnto
import Derived.Sort.Walk0
import Derived.Lib.Strings
import Derived.Below
import Derived.Shelf.Abstract
import Derived.ProofKit
namespace Go.Proofs.YtmfempdcpoeicaaGreat
open Go.RowKit Go.Shelf Go.Sort
open Go.Lib hiding intOf
variable {V:Type}

def lt (a b:ByteArray):Bool:=Op.bytesLess a.toList b.toList

theorem lt_iff (a b:ByteArray):lt a b=true ↔ a.data.toList<b.data.toList:=by
 unfold lt
 rw [Proofs.bytesLess_eq]
 simp [Lib.toList_data]

theorem key_ext {a b:ByteArray} (h:a.data.toList=b.data.toList):a=b:=by
 apply ByteArray.ext
 exact Array.toList_inj.1 h

theorem lt_irrefl (a:ByteArray):lt a a=false:=by
 rw [← Bool.not_eq_true,lt_iff];exact List.lt_irrefl _

def pos:List (ByteArray × V)→ByteArray→Nat
 | [],_=>0
 | e::r,k=>if lt e.1 k then pos r k+1 else 0

def Rise (es:List (ByteArray × V)):Prop:=es.Pairwise (fun a b=>lt a.1 b.1=true)

theorem Rise.tail {e:ByteArray × V} {r:List (ByteArray × V)} (h:Rise (e::r)):Rise r:=(List.pairwise_cons.1 h).2

def has (es:List (ByteArray × V)) (k:ByteArray):Bool :=
 match es[pos es k]? with
 | some e=>e.1.toList==k.toList
 | none=>false

theorem row_cell {w : World} {e : TypeId} {size : Nat} {g n cap : Nat} {xs : List Value} {base : Nat} (h : w.ownsRow base e size (.slice (some ⟨g, 0, none⟩) n cap) n xs) {j : Nat} {v : Value} (hj : xs[j]? = some v) :
   w.cell? ⟨g,j,none⟩=some v:=by
 obtain ⟨hl,hn | ⟨g',cap',cur,hs,_,hg,_,_,hcs,ht⟩⟩:=h
 · cases hn.1
 · cases hs
   simp only [World.cell?,hg]
   have hj':=(List.getElem?_eq_some_iff.1 hj).1
   rw [← ht] at hj
   rw [List.getElem?_take] at hj
   split at hj
   · simpa using hj
   · cases hj

structure Ch (X:Nat→Prop) (w w':World):Prop where
 os:w'.os=w.os
 tape:w'.tape=w.tape
 output:w'.output=w.output
 size:w.heap.size≤w'.heap.size
 block:∀k,k<w.heap.size→¬X k→w'.heap[k]?=w.heap[k]?

theorem Ch.refl (X:Nat→Prop) (w:World):Ch X w w:=⟨rfl,rfl,rfl,Nat.le_refl _,fun _ _ _=>rfl⟩

theorem Ch.trans {X:Nat→Prop} {a b c:World} (h:Ch X a b) (k:Ch X b c):Ch X a c :=
 ⟨k.os.trans h.os,k.tape.trans h.tape,k.output.trans h.output,Nat.le_trans h.size k.size,fun i hi hX=>(k.block i (Nat.lt_of_lt_of_le hi h.size) hX).trans (h.block i hi hX)⟩

theorem Ch.mono {X Y:Nat→Prop} {a b:World} (h:Ch X a b) (hXY:∀k,k<a.heap.size→X k→Y k):Ch Y a b :=
 ⟨h.os,h.tape,h.output,h.size,fun i hi hY=>h.block i hi (fun hX=>hY (hXY i hi hX))⟩

theorem Ch.below {X:Nat→Prop} {a b:World} {B:Nat} (h:Ch X a b) (hB:B≤a.heap.size) (hX:∀k,k<B→¬X k):Below B a b :=
 ⟨h.os,h.tape,h.output,h.size,fun k hk=>h.block k (by omega) (hX k hk)⟩

theorem Ch.of_below {X:Nat→Prop} {a b:World} (h:Below a.heap.size a b):Ch X a b:=⟨h.os,h.tape,h.output,h.size,fun k hk _=>h.block k hk⟩

theorem Ch.of_grown {X:Nat→Prop} {a b:World} {r:Option Nat} (h:a.grownBy b r) (hr:∀k,r=some k→k<a.heap.size→X k):Ch X a b :=
 ⟨h.os,h.tape,h.output,h.size,fun k hk hX=>h.block k hk (fun e=>hX (hr k e.symm hk))⟩

theorem Ch.drew {X:Nat→Prop} {a b:World} (h:Ch X a b):Ch X a b.drew:=⟨h.os,h.tape,h.output,h.size,h.block⟩

theorem Ch.alloc {X:Nat→Prop} {a b:World} (h:Ch X a b) (o:Obj):Ch X a (b.alloc o) :=
 h.trans (Ch.of_grown (World.grownBy_alloc b o none) (fun _ e=>by cases e))

theorem Ch.setCell {X:Nat→Prop} {a b:World} (h:Ch X a b) (p:Addr) (v:Value) (hp:p.block<a.heap.size→X p.block):Ch X a (b.setCell p v):=by
 refine ⟨h.os,h.tape,h.output,by simpa using h.size,fun k hk hX=>?_⟩
 rw [heap_setCell_other b p k v (fun e=>by subst e;exact hX (hp hk))]
 exact h.block k hk hX

theorem Ch.cell {X:Nat→Prop} {a b:World} (h:Ch X a b) {p:Addr} {v:Value} (hp:a.cell? p=some v) (hX:¬X p.block):b.cell? p=some v :=
 (World.cell?_of_block (h.block p.block (World.block_lt_of_cell? a p hp) hX)).trans hp

theorem Ch.obj {X:Nat→Prop} {a b:World} (h:Ch X a b) {k:Nat} {o:Obj} (hp:a.heap[k]?=some o) (hX:¬X k):b.heap[k]?=some o :=
 (h.block k (Array.getElem?_eq_some_iff.1 hp).1 hX).trans hp

theorem Ch.row {X:Nat→Prop} {a b:World} (h:Ch X a b) {base:Nat} {e:TypeId} {size:Nat} {v:Value} {n:Nat} {xs:List Value} (hr:a.ownsRow base e size v n xs) (hX:∀k,v.ownBlock=some k→¬X k):b.ownsRow base e size v n xs:=by
 refine ⟨hr.1,?_⟩
 rcases hr.2 with hn | ⟨g,cap,cur,rfl,hb,hgg,rest⟩
 · exact .inl hn
 · exact .inr ⟨g,cap,cur,rfl,hb,h.obj hgg (hX g rfl),rest⟩

theorem row_slice {w : World} {base : Nat} {e : TypeId} {size : Nat} {sv : Value} {n : Nat} {cs : List Value} (hrow : w.ownsRow base e size sv n cs) :
   ∃a c,sv=.slice a n c∧(a=none→n=0)∧n≤c∧c≤9223372036854775807:=by
 rcases hrow.2 with ⟨rfl,h0⟩ | ⟨g,cap,cur,rfl,_,hg,hnc,hcm,_⟩
 · exact ⟨none,0,by rw [h0],fun _=>h0,by omega,by omega⟩
 · unfold maxLen at hcm;exact ⟨_,cap,rfl,(fun e=>by cases e),hnc,by omega⟩

def put {V:Type} (es:List (ByteArray × V)) (k:ByteArray) (v:V):List (ByteArray × V) :=
 if has es k then es.set (pos es k) (k,v) else es.take (pos es k)++(k,v)::es.drop (pos es k)

def val (es:List (ByteArray × Int)) (k:ByteArray):Int:=if has es k then (es[pos es k]?.map (·.2)).getD 0 else 0

def Bx (w:World) (b:Nat) (v:Value) (t:TypeId):Prop:=w.heap[b]?=some (.cells #[v] t (0,0))

theorem Bx.cell {w:World} {b:Nat} {v:Value} {t:TypeId} (h:Bx w b v t):w.cell? ⟨b,0,none⟩=some v:=by unfold Bx at h;simp [World.cell?,h]

theorem Bx.fro {w:World} {b:Nat} {v:Value} {t:TypeId} (h:Bx w b v t):w.frozen? ⟨b,0,none⟩=false:=by unfold Bx at h;simp [World.frozen?,h]

theorem Bx.lt {w:World} {b:Nat} {v:Value} {t:TypeId} (h:Bx w b v t):b<w.heap.size:=(Array.getElem?_eq_some_iff.1 h).1

theorem Bx.new (w:World) (v:Value) (t:TypeId):Bx (w.alloc (.cells #[v] t)) w.heap.size v t:=heap_alloc_new w _

theorem Bx.ch {w w':World} {b:Nat} {v:Value} {t:TypeId} {X:Nat→Prop} (h:Bx w b v t) (hc:Ch X w w') (hX:¬X b):Bx w' b v t:=hc.obj h hX

theorem Bx.below {w w':World} {b:Nat} {v:Value} {t:TypeId} {B:Nat} (h:Bx w b v t) (hc:Below B w w') (hB:b<B):Bx w' b v t:=(hc.block b hB).trans h

theorem Bx.alloc {w:World} {b:Nat} {v:Value} {t:TypeId} (h:Bx w b v t) (o:Obj):Bx (w.alloc o) b v t:=h.below ((Below.refl _ w).alloc (Nat.le_refl _) o) h.lt

end Go.Proofs.YtmfempdcpoeicaaGreat
