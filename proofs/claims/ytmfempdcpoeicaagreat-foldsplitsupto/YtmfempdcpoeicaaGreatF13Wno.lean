/-
  Package fold's waitNoMore and left: what a token had is taken away.
-/
import Derived.Test.YtmfempdcpoeicaaGreatF13Ent
import Derived.Test.YtmfempdcpoeicaaGreatF13Del
set_option maxHeartbeats 4000000
set_option maxRecDepth 100000
namespace Go.Proofs.YtmfempdcpoeicaaGreat.f13
open Go.RowKit Go.Shelf Go.Sort
open Go.Lib hiding intOf

theorem Sx.toJb {B : Nat} {w w2 : World} {sb : Nat} {s : St} {l : List Jb} {v : Value} (h : Sx B w sb s) (hp : w2.ownsRow B 69 6 v l.length (l.flatMap Jb.c)) (hc : Ch (fun g => s.vJb.ownBlock = some g) w w2) (hn : ∀ g, v.ownBlock = some g → s.vJb.ownBlock = some g ∨ w.heap.size ≤ g) :
   Sx B (w2.setCell ⟨sb,6,none⟩ v) sb { s with vJb:=v,jobs:=l }∧(∀(j:Nat) (u:Value),s.c[j]?=some u→w2.cell? ⟨sb,j,none⟩=some u)∧(∀j:Nat,w2.frozen? ⟨sb,j,none⟩=false):=by
 have h2:=Own.perm (M:=Jb.rw s.vJb s.jobs::(bx sb s.c::(De.rw s.vDe s.procs::In.rw s.vIn s.insts::Tk.rw s.vTk s.tokens::Tm.rw s.vTm s.timers::Sb.rw s.vSb s.subs::Kp.rw s.vKp s.kept::Ls.rw s.vLs s.listed::Ms.rw s.vMs s.msgs::s.inner))) h (perm_ac fun z=>by
   simp only [St.rows,St.main,List.count_append,List.count_cons,List.count_nil,Nat.zero_add]
   ac_rfl)
 have h3:=h2.turn (r':=Jb.rw v l) hc hp hn
 have h4:=h3.perm (M:=bx sb s.c::(De.rw s.vDe s.procs::In.rw s.vIn s.insts::Tk.rw s.vTk s.tokens::Jb.rw v l::Tm.rw s.vTm s.timers::Sb.rw s.vSb s.subs::Kp.rw s.vKp s.kept::Ls.rw s.vLs s.listed::Ms.rw s.vMs s.msgs::s.inner)) (perm_ac fun z=>by
   simp only [List.count_cons]
   ac_rfl)
 exact ⟨bx.put h4 6 v,fun j u hj=>bx.cell h4 (List.mem_cons_self ..) hj,fun j=>bx.fro h4 (List.mem_cons_self ..) j⟩

theorem Sx.toTm {B : Nat} {w w2 : World} {sb : Nat} {s : St} {l : List Tm} {v : Value} (h : Sx B w sb s) (hp : w2.ownsRow B 72 3 v l.length (l.flatMap Tm.c)) (hc : Ch (fun g => s.vTm.ownBlock = some g) w w2) (hn : ∀ g, v.ownBlock = some g → s.vTm.ownBlock = some g ∨ w.heap.size ≤ g) :
   Sx B (w2.setCell ⟨sb,7,none⟩ v) sb { s with vTm:=v,timers:=l }∧(∀(j:Nat) (u:Value),s.c[j]?=some u→w2.cell? ⟨sb,j,none⟩=some u)∧(∀j:Nat,w2.frozen? ⟨sb,j,none⟩=false):=by
 have h2:=Own.perm (M:=Tm.rw s.vTm s.timers::(bx sb s.c::(De.rw s.vDe s.procs::In.rw s.vIn s.insts::Tk.rw s.vTk s.tokens::Jb.rw s.vJb s.jobs::Sb.rw s.vSb s.subs::Kp.rw s.vKp s.kept::Ls.rw s.vLs s.listed::Ms.rw s.vMs s.msgs::s.inner))) h (perm_ac fun z=>by
   simp only [St.rows,St.main,List.count_append,List.count_cons,List.count_nil,Nat.zero_add]
   ac_rfl)
 have h3:=h2.turn (r':=Tm.rw v l) hc hp hn
 have h4:=h3.perm (M:=bx sb s.c::(De.rw s.vDe s.procs::In.rw s.vIn s.insts::Tk.rw s.vTk s.tokens::Jb.rw s.vJb s.jobs::Tm.rw v l::Sb.rw s.vSb s.subs::Kp.rw s.vKp s.kept::Ls.rw s.vLs s.listed::Ms.rw s.vMs s.msgs::s.inner)) (perm_ac fun z=>by
   simp only [List.count_cons]
   ac_rfl)
 exact ⟨bx.put h4 7 v,fun j u hj=>bx.cell h4 (List.mem_cons_self ..) hj,fun j=>bx.fro h4 (List.mem_cons_self ..) j⟩

theorem Sx.toSb {B : Nat} {w w2 : World} {sb : Nat} {s : St} {l : List Sb} {v : Value} (h : Sx B w sb s) (hp : w2.ownsRow B 75 6 v l.length (l.flatMap Sb.c)) (hc : Ch (fun g => s.vSb.ownBlock = some g) w w2) (hn : ∀ g, v.ownBlock = some g → s.vSb.ownBlock = some g ∨ w.heap.size ≤ g) :
   Sx B (w2.setCell ⟨sb,8,none⟩ v) sb { s with vSb:=v,subs:=l }∧(∀(j:Nat) (u:Value),s.c[j]?=some u→w2.cell? ⟨sb,j,none⟩=some u)∧(∀j:Nat,w2.frozen? ⟨sb,j,none⟩=false):=by
 have h2:=Own.perm (M:=Sb.rw s.vSb s.subs::(bx sb s.c::(De.rw s.vDe s.procs::In.rw s.vIn s.insts::Tk.rw s.vTk s.tokens::Jb.rw s.vJb s.jobs::Tm.rw s.vTm s.timers::Kp.rw s.vKp s.kept::Ls.rw s.vLs s.listed::Ms.rw s.vMs s.msgs::s.inner))) h (perm_ac fun z=>by
   simp only [St.rows,St.main,List.count_append,List.count_cons,List.count_nil,Nat.zero_add]
   ac_rfl)
 have h3:=h2.turn (r':=Sb.rw v l) hc hp hn
 have h4:=h3.perm (M:=bx sb s.c::(De.rw s.vDe s.procs::In.rw s.vIn s.insts::Tk.rw s.vTk s.tokens::Jb.rw s.vJb s.jobs::Tm.rw s.vTm s.timers::Sb.rw v l::Kp.rw s.vKp s.kept::Ls.rw s.vLs s.listed::Ms.rw s.vMs s.msgs::s.inner)) (perm_ac fun z=>by
   simp only [List.count_cons]
   ac_rfl)
 exact ⟨bx.put h4 8 v,fun j u hj=>bx.cell h4 (List.mem_cons_self ..) hj,fun j=>bx.fro h4 (List.mem_cons_self ..) j⟩

theorem waitJb_any (x : Jb) {w : World} {ib kf : Nat} {caps : Array Value} {b : Bool} (hi : w.cell? ⟨ib, 0, none⟩ = some (.func (.func kf) #[] caps)) (ek : Ent0 kf) (hq : ∀ W, Below w.heap.size w W → Calls Tryz.prog kf (#[.int .u64 (x.token : Int)] ++ caps) W fun e W' => e = .returned (.bool b) ∧ Below W.heap.size W W') :
   Calls Tryz.prog 135 #[.agg (Jb.c x).toArray,.pointer (some ⟨ib,0,none⟩)] w fun e w'=>e=.returned (.bool b)∧Below w.heap.size w w':=by
 have hil:=World.block_lt_of_cell? w _ hi
 obtain ⟨x0,x1,x2,x3,x4,x5⟩:=x
 simp only [Jb.c] at hq ⊢
 have hb0:Below w.heap.size w (w.alloc (.cells #[.int .u64 (x0:Int),.int .u64 (x1:Int),.string (S x2),.int .i64 x3,.string (S x4),.int .i64 x5] 69)):=(Below.refl _ w).alloc nlr _
 have CQ:=hq _ hb0
 have mi:=(hb0.cell (p:=⟨ib,0,none⟩) hil).trans hi
 have B1:Hid (Below w.heap.size w (w.alloc (.cells #[.int .u64 (x0:Int),.int .u64 (x1:Int),.string (S x2),.int .i64 x3,.string (S x4),.int .i64 x5] 69))):=hb0
 unfold Ent0 at ek
 clear hb0 hq hi
 go_enter Tryz.func135,Tryz.ntmps135
 go_wp2
 refine CQ.mono ?_
 rintro e w1 ⟨rfl,b1⟩
 have B2:Hid (Below w.heap.size w w1):=bel_of B1.out b1 nlr
 clear b1 CQ
 go_wp2
 go_ret
 exact ⟨rfl,B2.out⟩

theorem waitTm_any (x : Tm) {w : World} {ib kf : Nat} {caps : Array Value} {b : Bool} (hi : w.cell? ⟨ib, 0, none⟩ = some (.func (.func kf) #[] caps)) (ek : Ent0 kf) (hq : ∀ W, Below w.heap.size w W → Calls Tryz.prog kf (#[.int .u64 (x.token : Int)] ++ caps) W fun e W' => e = .returned (.bool b) ∧ Below W.heap.size W W') :
   Calls Tryz.prog 137 #[.agg (Tm.c x).toArray,.pointer (some ⟨ib,0,none⟩)] w fun e w'=>e=.returned (.bool b)∧Below w.heap.size w w':=by
 have hil:=World.block_lt_of_cell? w _ hi
 obtain ⟨x0,x1,x2⟩:=x
 simp only [Tm.c] at hq ⊢
 have hb0:Below w.heap.size w (w.alloc (.cells #[.int .u64 (x0:Int),.int .i64 x1,.int .i64 x2] 72)):=(Below.refl _ w).alloc nlr _
 have CQ:=hq _ hb0
 have mi:=(hb0.cell (p:=⟨ib,0,none⟩) hil).trans hi
 have B1:Hid (Below w.heap.size w (w.alloc (.cells #[.int .u64 (x0:Int),.int .i64 x1,.int .i64 x2] 72))):=hb0
 unfold Ent0 at ek
 clear hb0 hq hi
 go_enter Tryz.func137,Tryz.ntmps137
 go_wp2
 refine CQ.mono ?_
 rintro e w1 ⟨rfl,b1⟩
 have B2:Hid (Below w.heap.size w w1):=bel_of B1.out b1 nlr
 clear b1 CQ
 go_wp2
 go_ret
 exact ⟨rfl,B2.out⟩

theorem waitSb_any (x : Sb) {w : World} {ib kf : Nat} {caps : Array Value} {b : Bool} (hi : w.cell? ⟨ib, 0, none⟩ = some (.func (.func kf) #[] caps)) (ek : Ent0 kf) (hq : ∀ W, Below w.heap.size w W → Calls Tryz.prog kf (#[.int .u64 (x.token : Int)] ++ caps) W fun e W' => e = .returned (.bool b) ∧ Below W.heap.size W W') :
   Calls Tryz.prog 139 #[.agg (Sb.c x).toArray,.pointer (some ⟨ib,0,none⟩)] w fun e w'=>e=.returned (.bool b)∧Below w.heap.size w w':=by
 have hil:=World.block_lt_of_cell? w _ hi
 obtain ⟨x0,x1,x2,x3,x4,x5⟩:=x
 simp only [Sb.c] at hq ⊢
 have hb0:Below w.heap.size w (w.alloc (.cells #[.int .u64 (x0:Int),.int .u64 (x1:Int),.int .i64 x2,.string (S x3),.string (S x4),.bool x5] 75)):=(Below.refl _ w).alloc nlr _
 have CQ:=hq _ hb0
 have mi:=(hb0.cell (p:=⟨ib,0,none⟩) hil).trans hi
 have B1:Hid (Below w.heap.size w (w.alloc (.cells #[.int .u64 (x0:Int),.int .u64 (x1:Int),.int .i64 x2,.string (S x3),.string (S x4),.bool x5] 75))):=hb0
 unfold Ent0 at ek
 clear hb0 hq hi
 go_enter Tryz.func139,Tryz.ntmps139
 go_wp2
 refine CQ.mono ?_
 rintro e w1 ⟨rfl,b1⟩
 have B2:Hid (Below w.heap.size w w1):=bel_of B1.out b1 nlr
 clear b1 CQ
 go_wp2
 go_ret
 exact ⟨rfl,B2.out⟩

theorem stepJb {B M : Nat} {w W : World} {sb kf ib : Nat} {s : St} {caps : Array Value} (q : Nat → Bool) (h : Sx B W sb s) (hM : M ≤ ib) (hC : Ch (fun g => g < M) w W) (hi : w.cell? ⟨ib, 0, none⟩ = some (.func (.func kf) #[] caps)) (ek : Ent0 kf) (K : Nat → Prop) (hq : ∀ tok : Nat, K tok → Say (fun g => g < M) w kf caps #[.int .u64 (tok : Int)] (q tok)) (hK : ∀ x ∈ s.jobs, K x.token) (hl : ∀ g, s.vJb.ownBlock = some g → g < M) (hls : sb < M) (hn : s.jobs.length * 64 ≤ 211106232528000) (hB : B ≤ W.heap.size) :
   Calls Tryz.prog 134 #[s.vJb,.func (.func 135) #[] #[.pointer (some ⟨ib,0,none⟩)]] W fun e w'=>∃a n c,e=.returned (.slice a n c)∧Sx B (w'.setCell ⟨sb,6,none⟩ (.slice a n c)) sb { s with vJb:=.slice a n c,jobs:=s.jobs.filter fun x=>!q x.token }∧Ch (fun g=>g<M) w (w'.setCell ⟨sb,6,none⟩ (.slice a n c))∧Below B W (w'.setCell ⟨sb,6,none⟩ (.slice a n c))∧(∃u,w'.cell? ⟨sb,6,none⟩=some u)∧w'.frozen? ⟨sb,6,none⟩=false:=by
 have ek1:Ent0 135:=enters_of Tryz.func135 (by kernel_rfl) rfl
 have hsay:∀x∈s.jobs,Say (fun g=>s.vJb.ownBlock=some g) W 135 #[.pointer (some ⟨ib,0,none⟩)] #[.agg (Jb.c x).toArray] (q x.token):=by
   intro x hx W' hW'
   have hC':Ch (fun g=>g<M) w W':=hC.trans (hW'.mono (fun g _ e=>hl g e))
   have hi':W'.cell? ⟨ib,0,none⟩=some (.func (.func kf) #[] caps):=hC'.cell hi (fun e=>by simp only at e;omega)
   exact waitJb_any x hi' ek (fun W'' hW''=>hq x.token (hK x hx) W'' (hC'.trans (Ch.of_below hW'')))
 have hlen:s.jobs.length≤4611686018427387904:=by omega
 refine (takeJb_any (B:=B) (fun x=>q x.token) h.rJb hlen ek1 hsay).mono ?_
 rintro e w1 ⟨v1,rfl,r1,c1,o1⟩
 obtain ⟨a,c,rfl,-⟩:=row_slice r1
 obtain ⟨k1,k2,k3⟩:=h.toJb r1 c1 (fun g hg=>.inl (by rw [← o1];exact hg))
 refine ⟨a,_,c,rfl,k1,?_,?_,⟨_,k2 6 _ rfl⟩,k3 6⟩
 · exact (hC.trans (c1.mono (fun g _ e=>hl g e))).setCell _ _ (fun _=>hls)
 · have hb1:Below B W w1:=Own.ge c1 hB (fun g hg=>(h.rJb.lt g hg).1)
   exact hb1.trans (((Ch.refl (fun b=>b=sb) w1).setCell ⟨sb,6,none⟩ _ (fun _=>rfl)).below (Nat.le_trans hB c1.size) (fun g hg e=>by have:=h.lt.1;omega))

theorem stepTm {B M : Nat} {w W : World} {sb kf ib : Nat} {s : St} {caps : Array Value} (q : Nat → Bool) (h : Sx B W sb s) (hM : M ≤ ib) (hC : Ch (fun g => g < M) w W) (hi : w.cell? ⟨ib, 0, none⟩ = some (.func (.func kf) #[] caps)) (ek : Ent0 kf) (K : Nat → Prop) (hq : ∀ tok : Nat, K tok → Say (fun g => g < M) w kf caps #[.int .u64 (tok : Int)] (q tok)) (hK : ∀ x ∈ s.timers, K x.token) (hl : ∀ g, s.vTm.ownBlock = some g → g < M) (hls : sb < M) (hn : s.timers.length * 24 ≤ 211106232528000) (hB : B ≤ W.heap.size) :
   Calls Tryz.prog 136 #[s.vTm,.func (.func 137) #[] #[.pointer (some ⟨ib,0,none⟩)]] W fun e w'=>∃a n c,e=.returned (.slice a n c)∧Sx B (w'.setCell ⟨sb,7,none⟩ (.slice a n c)) sb { s with vTm:=.slice a n c,timers:=s.timers.filter fun x=>!q x.token }∧Ch (fun g=>g<M) w (w'.setCell ⟨sb,7,none⟩ (.slice a n c))∧Below B W (w'.setCell ⟨sb,7,none⟩ (.slice a n c))∧(∃u,w'.cell? ⟨sb,7,none⟩=some u)∧w'.frozen? ⟨sb,7,none⟩=false:=by
 have ek1:Ent0 137:=enters_of Tryz.func137 (by kernel_rfl) rfl
 have hsay:∀x∈s.timers,Say (fun g=>s.vTm.ownBlock=some g) W 137 #[.pointer (some ⟨ib,0,none⟩)] #[.agg (Tm.c x).toArray] (q x.token):=by
   intro x hx W' hW'
   have hC':Ch (fun g=>g<M) w W':=hC.trans (hW'.mono (fun g _ e=>hl g e))
   have hi':W'.cell? ⟨ib,0,none⟩=some (.func (.func kf) #[] caps):=hC'.cell hi (fun e=>by simp only at e;omega)
   exact waitTm_any x hi' ek (fun W'' hW''=>hq x.token (hK x hx) W'' (hC'.trans (Ch.of_below hW'')))
 have hlen:s.timers.length≤4611686018427387904:=by omega
 refine (takeTm_any (B:=B) (fun x=>q x.token) h.rTm hlen ek1 hsay).mono ?_
 rintro e w1 ⟨v1,rfl,r1,c1,o1⟩
 obtain ⟨a,c,rfl,-⟩:=row_slice r1
 obtain ⟨k1,k2,k3⟩:=h.toTm r1 c1 (fun g hg=>.inl (by rw [← o1];exact hg))
 refine ⟨a,_,c,rfl,k1,?_,?_,⟨_,k2 7 _ rfl⟩,k3 7⟩
 · exact (hC.trans (c1.mono (fun g _ e=>hl g e))).setCell _ _ (fun _=>hls)
 · have hb1:Below B W w1:=Own.ge c1 hB (fun g hg=>(h.rTm.lt g hg).1)
   exact hb1.trans (((Ch.refl (fun b=>b=sb) w1).setCell ⟨sb,7,none⟩ _ (fun _=>rfl)).below (Nat.le_trans hB c1.size) (fun g hg e=>by have:=h.lt.1;omega))

theorem stepSb {B M : Nat} {w W : World} {sb kf ib : Nat} {s : St} {caps : Array Value} (q : Nat → Bool) (h : Sx B W sb s) (hM : M ≤ ib) (hC : Ch (fun g => g < M) w W) (hi : w.cell? ⟨ib, 0, none⟩ = some (.func (.func kf) #[] caps)) (ek : Ent0 kf) (K : Nat → Prop) (hq : ∀ tok : Nat, K tok → Say (fun g => g < M) w kf caps #[.int .u64 (tok : Int)] (q tok)) (hK : ∀ x ∈ s.subs, K x.token) (hl : ∀ g, s.vSb.ownBlock = some g → g < M) (hls : sb < M) (hn : s.subs.length * 64 ≤ 211106232528000) (hB : B ≤ W.heap.size) :
   Calls Tryz.prog 138 #[s.vSb,.func (.func 139) #[] #[.pointer (some ⟨ib,0,none⟩)]] W fun e w'=>∃a n c,e=.returned (.slice a n c)∧Sx B (w'.setCell ⟨sb,8,none⟩ (.slice a n c)) sb { s with vSb:=.slice a n c,subs:=s.subs.filter fun x=>!q x.token }∧Ch (fun g=>g<M) w (w'.setCell ⟨sb,8,none⟩ (.slice a n c))∧Below B W (w'.setCell ⟨sb,8,none⟩ (.slice a n c))∧(∃u,w'.cell? ⟨sb,8,none⟩=some u)∧w'.frozen? ⟨sb,8,none⟩=false:=by
 have ek1:Ent0 139:=enters_of Tryz.func139 (by kernel_rfl) rfl
 have hsay:∀x∈s.subs,Say (fun g=>s.vSb.ownBlock=some g) W 139 #[.pointer (some ⟨ib,0,none⟩)] #[.agg (Sb.c x).toArray] (q x.token):=by
   intro x hx W' hW'
   have hC':Ch (fun g=>g<M) w W':=hC.trans (hW'.mono (fun g _ e=>hl g e))
   have hi':W'.cell? ⟨ib,0,none⟩=some (.func (.func kf) #[] caps):=hC'.cell hi (fun e=>by simp only at e;omega)
   exact waitSb_any x hi' ek (fun W'' hW''=>hq x.token (hK x hx) W'' (hC'.trans (Ch.of_below hW'')))
 have hlen:s.subs.length≤4611686018427387904:=by omega
 refine (takeSb_any (B:=B) (fun x=>q x.token) h.rSb hlen ek1 hsay).mono ?_
 rintro e w1 ⟨v1,rfl,r1,c1,o1⟩
 obtain ⟨a,c,rfl,-⟩:=row_slice r1
 obtain ⟨k1,k2,k3⟩:=h.toSb r1 c1 (fun g hg=>.inl (by rw [← o1];exact hg))
 refine ⟨a,_,c,rfl,k1,?_,?_,⟨_,k2 8 _ rfl⟩,k3 8⟩
 · exact (hC.trans (c1.mono (fun g _ e=>hl g e))).setCell _ _ (fun _=>hls)
 · have hb1:Below B W w1:=Own.ge c1 hB (fun g hg=>(h.rSb.lt g hg).1)
   exact hb1.trans (((Ch.refl (fun b=>b=sb) w1).setCell ⟨sb,8,none⟩ _ (fun _=>rfl)).below (Nat.le_trans hB c1.size) (fun g hg e=>by have:=h.lt.1;omega))

def eWait (s:St) (q:Nat→Bool):St:={ s with jobs:=s.jobs.filter (fun x=>!q x.token),timers:=s.timers.filter (fun x=>!q x.token),subs:=s.subs.filter (fun x=>!q x.token) }
theorem waitNoMore_any {B M : Nat} {w : World} {sb kf : Nat} {s : St} {caps : Array Value} (q : Nat → Bool) (h : Sx B w sb s) (hB : B ≤ w.heap.size) (hM : M ≤ w.heap.size) (ek : Ent0 kf) (K : Nat → Prop) (hq : ∀ tok : Nat, K tok → Say (fun g => g < M) w kf caps #[.int .u64 (tok : Int)] (q tok)) (kJ : ∀ x ∈ s.jobs, K x.token) (kT : ∀ x ∈ s.timers, K x.token) (kS : ∀ x ∈ s.subs, K x.token) (lJ : ∀ g, s.vJb.ownBlock = some g → g < M) (lT : ∀ g, s.vTm.ownBlock = some g → g < M) (lS : ∀ g, s.vSb.ownBlock = some g → g < M) (hls : sb < M) (nJ : s.jobs.length * 64 ≤ 211106232528000) (nT : s.timers.length * 24 ≤ 211106232528000) (nS : s.subs.length * 64 ≤ 211106232528000) :
   Calls Tryz.prog 77 #[.pointer (some ⟨sb,0,none⟩),.func (.func kf) #[] caps] w fun e w'=>e=.returned (.tuple #[])∧Eff B w sb (eWait s.e q) w':=by
 have hb0:Below w.heap.size w (w.alloc (.cells #[.func (.func kf) #[] caps] 122)):=(Below.refl _ w).alloc nlr _
 have hC0:Ch (fun g=>g<M) w (w.alloc (.cells #[.func (.func kf) #[] caps] 122)):=Ch.of_below hb0
 have hi0:(w.alloc (.cells #[.func (.func kf) #[] caps] 122)).cell? ⟨w.heap.size,0,none⟩=some (.func (.func kf) #[] caps):=World.cell?_alloc_new _ _ _ _
 have hq0:=fun tok hk=>(hq tok hk).ch hC0
 have hS0:=h.up hb0
 have hB0:B≤(w.alloc (.cells #[.func (.func kf) #[] caps] 122)).heap.size:=Nat.le_trans hB hb0.size
 have CJ:=stepJb q hS0 hM (Ch.refl _ _) hi0 ek K hq0 kJ lJ hls nJ hB0
 have HT:Hid (∀W t,Sx B W sb t→Ch (fun g=>g<M) (w.alloc (.cells #[.func (.func kf) #[] caps] 122)) W→t.vTm=s.vTm→t.timers=s.timers→_):=fun W t hS hC e1 e2=>stepTm (s:=t) q hS hM hC hi0 ek K hq0 (by rw [e2];exact kT) (by rw [e1];exact lT) hls (by rw [e2];exact nT) (Nat.le_trans hB0 hC.size)
 have HSb:Hid (∀W t,Sx B W sb t→Ch (fun g=>g<M) (w.alloc (.cells #[.func (.func kf) #[] caps] 122)) W→t.vSb=s.vSb→t.subs=s.subs→_):=fun W t hS hC e1 e2=>stepSb (s:=t) q hS hM hC hi0 ek K hq0 (by rw [e2];exact kS) (by rw [e1];exact lS) hls (by rw [e2];exact nS) (Nat.le_trans hB0 hC.size)
 have mJ:=hS0.cell (j:=6) (u:=s.vJb) rfl
 obtain ⟨aJ,dJ,hsJ,-⟩:=row_slice h.rJb
 obtain ⟨aT,dT,hsT,-⟩:=row_slice h.rTm
 obtain ⟨aS,dS,hsS,-⟩:=row_slice h.rSb
 have HJ:Hid (s.vJb=.slice aJ s.jobs.length dJ):=hsJ
 have HTv:Hid (s.vTm=.slice aT s.timers.length dT):=hsT
 have HSv:Hid (s.vSb=.slice aS s.subs.length dS):=hsS
 have BB:Hid (Below B w (w.alloc (.cells #[.func (.func kf) #[] caps] 122))):=hb0.mono hB
 rw [hsJ] at CJ mJ
 clear h hb0 hC0 hq hq0 hS0 kJ kT kS lJ lT lS hsJ hsT hsS hi0 ek
 go_enter Tryz.func77,Tryz.ntmps77
 go_wp2_with (first
   | (go_at_call 134;refine CJ.mono ?_;rintro e w1 ⟨a1,n1,c1,rfl,k1,k2,k3,⟨u1,p1⟩,f1⟩;(have CT:=HT.out _ _ k1 k2 rfl rfl);(have mT:=k1.cell (j:=7) (u:=s.vTm) rfl);rw [HTv.out] at mT;simp only [HTv.out] at CT;(have BB1:Hid (Below B w _):=BB.out.trans k3);clear k1 k2 k3 CJ HT mJ)
   | (go_at_call 136;refine CT.mono ?_;rintro e w2 ⟨a2,n2,c2,rfl,k1,k2,k3,⟨u2,p2⟩,f2⟩;(have CS:=HSb.out _ _ k1 k2 rfl rfl);(have mS:=k1.cell (j:=8) (u:=s.vSb) rfl);rw [HSv.out] at mS;simp only [HSv.out] at CS;(have BB2:Hid (Below B w _):=BB1.out.trans k3);clear k1 k2 k3 CT HSb mT)
   | (go_at_call 138;refine CS.mono ?_;rintro e w3 ⟨a3,n3,c3,rfl,k1,k2,k3,⟨u3,p3⟩,f3⟩;(have KK:Hid (Sx B _ sb _∧Below B w _):=⟨k1,BB2.out.trans k3⟩);clear k1 k2 k3 CS mS))
 go_end0
 exact ⟨rfl,_,KK.out.1,rfl,KK.out.2⟩
end Go.Proofs.YtmfempdcpoeicaaGreat.f13
