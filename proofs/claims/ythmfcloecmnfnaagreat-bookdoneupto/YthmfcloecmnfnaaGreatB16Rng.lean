/-
  'for _, j := range Ready(..)': jobs in a cell of their own; what Activate has laid when some were told.
-/
import Derived.Test.YthmfcloecmnfnaaGreatB16Rd2
import Derived.Test.YthmfcloecmnfnaaGreatB16Bck
namespace Go.Proofs.YthmfcloecmnfnaaGreat.f13
open Go.RowKit Go.Shelf Go.Sort
open Go.Lib hiding intOf

open Go.Proofs.YthmfcloecmnfnaaGreat
theorem range_jb {g : Operand} {p1 p2 : Tmp} {assign body : Code} {Q : Exit → Act → World → Prop} {a : Act} {w : World} {n : Nat} {f : Value} {l : List (Jb × Nat)} {X : Nat → Prop} (r : Nat)
    (hg : a.eval g = f) (hS : Sq encJ w f l X)
    (I : Nat → List (Jb × Nat) → World → Prop) (Ix : Nat → Code → List (Jb × Nat) → World → Prop)
    (hI : ∀ s pre W W', I s pre W → Go.Proofs.YthmfcloecmnfnaaGreat.Sb w.heap.size s W W' → I s pre W') (hIx : ∀ s c pre W W', Ix s c pre W → Go.Proofs.YthmfcloecmnfnaaGreat.Sb w.heap.size s W W' → Ix s c pre W')
    (hIs : ∀ s pre W, I s pre W → s ≤ W.heap.size)
    (hstart : ∀ W0, Below w.heap.size w W0 → w.heap.size + 2 ≤ W0.heap.size → I W0.heap.size [] W0)
    (hassign : ∀ (m l' : Nat) (x : Jb × Nat) (W : World) (K : Act → World → Prop), K { tmps := ((a.tmps.setIfInBounds p1 (.int .i64 (x.2 : Int))).setIfInBounds p2 (.agg (Jb.c x.1).toArray)).setIfInBounds r (.pointer (some ⟨W.heap.size, 0, none⟩)), defers := [] } (W.alloc (.cells (Jb.c x.1).toArray 46)) →
      assign.wpIn (Fence.wide.inRound l') m Tryz.prog (Exit.then K (fun _ _ _ => False)) { tmps := (a.tmps.setIfInBounds p1 (.int .i64 (x.2 : Int))).setIfInBounds p2 (.agg (Jb.c x.1).toArray), defers := [] } W)
    (hbody : ∀ (m l' : Nat) (s b : Nat) (pre : List (Jb × Nat)) (x : Jb × Nat) (Wp W : World), I s pre Wp → Go.Proofs.YthmfcloecmnfnaaGreat.Sb w.heap.size s Wp W → Wp.heap.size ≤ b → W.heap[b]? = some (.cells (Jb.c x.1).toArray 46 (0, 0)) → pre ++ [x] <+: l →
      body.wpIn (Fence.wide.inRound l') m Tryz.prog (ownPostX w.heap.size (Kq (fun k => X k ∨ (w.heap.size + 2 ≤ k ∧ k < s) ∨ (Wp.heap.size ≤ k ∧ k < b))) (I s) (Ix s) (pre ++ [x]) W) { tmps := ((a.tmps.setIfInBounds p1 (.int .i64 (x.2 : Int))).setIfInBounds p2 (.agg (Jb.c x.1).toArray)).setIfInBounds r (.pointer (some ⟨b, 0, none⟩)), defers := [] } W)
    (hdone : ∀ (s : Nat) (W : World), I s l W → W.heap[w.heap.size]? = some (.deferred (some [])) → Q .normal { a with defers := { target := .collected w.heap.size, args := #[] } :: a.defers } W)
    (hstop : ∀ (s : Nat) (c : Code) (pre : List (Jb × Nat)) (W : World), Ix s c pre W → W.heap[w.heap.size]? = some (.deferred (some [])) → c.wpIn Fence.wide n Tryz.prog Q { a with defers := { target := .collected w.heap.size, args := #[] } :: a.defers } W) :
    (Code.rangeFunc g #[p1, p2] assign body).wpIn Fence.wide n Tryz.prog Q a w := by
  refine range_sqA (fun _ => rfl) hg hS I Ix (fun s z t pre x a' W => ∃ Wp, I s pre Wp ∧ Go.Proofs.YthmfcloecmnfnaaGreat.Sb w.heap.size s Wp W ∧ Wp.heap.size = z ∧ z ≤ t ∧ W.heap[t]? = some (.cells (Jb.c x.1).toArray 46 (0, 0)) ∧ a' = { tmps := ((a.tmps.setIfInBounds p1 (.int .i64 (x.2 : Int))).setIfInBounds p2 (.agg (Jb.c x.1).toArray)).setIfInBounds r (.pointer (some ⟨t, 0, none⟩)), defers := [] }) hI hIx
    ?_ hstart (fun m l' s pre x Wp W K hi hsb _ hK => ?_) (fun m l' s z t pre x a' W h hnx => ?_) hdone hstop
  · rintro s z t pre x a' W W' ⟨Wp, h1, h2, h3, h4, h5, h6⟩ hs
    refine ⟨Wp, h1, Go.Proofs.YthmfcloecmnfnaaGreat.Sb.trans h2 hs, h3, h4, Ch.obj hs h5 ?_, h6⟩
    rintro ⟨_, h | ⟨o, ho, hc⟩⟩
    · have := hIs s pre Wp h1; omega
    · rw [h5] at ho; cases ho; cases hc
  · have e : ((#[p1, p2] : Array Tmp).zip (encJ x)).foldl (fun t (p, v) => t.setIfInBounds p v) a.tmps = (a.tmps.setIfInBounds p1 (.int .i64 (x.2 : Int))).setIfInBounds p2 (.agg (Jb.c x.1).toArray) := by simp [Array.zip, encJ]
    rw [e]
    refine hassign m l' x W K (hK _ _ (KeepsFrom.of_ch (Y := fun _ => False) ((Ch.refl _ W).alloc _) (fun _ h => h.elim)) ((Kq.refl _ W).alloc _) ⟨Wp, hi, ?_, rfl, Ch.size hsb, heap_alloc_new W _, rfl⟩)
    exact Go.Proofs.YthmfcloecmnfnaaGreat.Sb.trans hsb (Go.Proofs.YthmfcloecmnfnaaGreat.Sb.of_below ((Below.refl _ W).alloc (Nat.le_refl _) _))
  · obtain ⟨Wp, h1, h2, rfl, h4, h5, rfl⟩ := h
    exact hbody m l' s t pre x Wp W h1 h2 h4 h5 hnx

theorem wpListIn_append_runJ {F : Fence} {n : Nat} {P : Program} (w : World) {ops : Array Oper} {rest : List Oper} {o : Oper} {a : Act} {Q : Exit → Act → World → Prop}
    (hg : o.guard = none) (s x : Operand) (t : TypeId) (hop : o.op = Op.call { callee := Callee.builtin Builtin.append, args := #[s, x], argTypes := #[t, t] }) (v y v' : Value) (w' : World) (hs : a.eval s = v) (hx : a.eval x = y)
    (hrun : (Builtin.append_ #[t, t] o.type #[v, y]).run P w = .ok v' w') (hK : wpListIn F n P ops Q rest (a.put o.dst v') w') : wpListIn F n P ops Q (o :: rest) a w := by
  refine wpListIn_plain hg fun K hK' => ?_
  unfold Oper.wpIn
  refine ⟨?_, ?_⟩
  · simp [Oper.about, hop, resolve, Target.leads, Sem.run_pure]
  · rw [Oper.semAt_plain F _ _ (by rw [hop]; intro c hc'; cases hc')]
    simp [execOp, hop, resolve, invoke, builtin, hs, hx, hrun, Result.andThen]
    exact hK' _ _ hK
set_option maxRecDepth 100000 in
/-- a job more behind those that are given -/
theorem job_run {W : World} {s n : Nat} {ga : Option Addr} {gc : Nat} {xs : List Value} (x : Jb) (h : W.ownsRow s 46 6 (.slice ga n gc) n xs) (hn : n ≤ 1000) (hsW : s ≤ W.heap.size) :
    ∃ a9 c9 w9, (Builtin.append_ #[26, 26] 26 #[.slice ga n gc, .slice (some ⟨W.heap.size, 0, none⟩) 1 1]).run Tryz.prog (W.alloc (.cells (Jb.c x).toArray 46)) = .ok (.slice a9 (n + 1) c9) w9 ∧ w9.ownsRow s 46 6 (.slice a9 (n + 1) c9) (n + 1) (xs ++ Jb.c x) ∧ (W.alloc (.cells (Jb.c x).toArray 46)).grownBy w9 (Value.slice ga n gc).ownBlock ∧ (∀ y, (Value.slice a9 (n + 1) c9).ownBlock = some y → (Value.slice ga n gc).ownBlock = some y ∨ W.heap.size ≤ y) := by
  obtain ⟨i9, hi9, hz0, hz1, hz2⟩ := info_parts infoJb
  have hW' : Below W.heap.size W (W.alloc (.cells (Jb.c x).toArray 46)) := (Below.refl _ W).alloc (Nat.le_refl _) _
  have r1 := (Ch.of_below (X := fun _ => False) hW').row (row_zero h) (fun _ _ e => e)
  obtain ⟨gg, cap, w', hrun, r4, g4, h4, -⟩ := run_append_where (P := Tryz.prog) (W.alloc (.cells (Jb.c x).toArray 46)) 26 26 46 i9 _ 6 64 Tryz.underlying26 hi9 hz0 hz1 hz2 rfl (by decide) _ _ _ r1 ⟨W.heap.size, 0, none⟩ 1 1 (Jb.c x) rfl
      (fun j u hj => by
        rw [Addr.add_lit, Nat.zero_add]
        exact (World.cell?_alloc_new W (Jb.c x).toArray _ j).trans (by simpa using hj)) (fun u hu => Jb.one (l := [x]) u (by simpa using hu)) (by decide) (by unfold maxLen; omega) (by omega)
  have hwh : ∀ b, (Value.slice (some ⟨gg, 0, none⟩) (n + 1) cap).ownBlock = some b → (Value.slice ga n gc).ownBlock = some b ∨ W.heap.size ≤ b := fun b hb => by
    obtain rfl : gg = b := by simpa [Value.ownBlock] using hb
    rcases h4 with h4 | h4
    · exact .inl h4
    · right; have := hW'.size; omega
  exact ⟨_, cap, w', hrun, row_base r4 (fun b hb => (hwh b hb).elim (fun e => (h.lt b e).1) (fun e => by omega)), g4, hwh⟩
theorem range_jbB {g : Operand} {p1 p2 : Tmp} {assign body : Code} {Q2 : Exit → Act → World → Prop} {id : Nat} {a : Act} {w : World} {n : Nat} {f : Value} {l : List (Jb × Nat)} {X : Nat → Prop} (r : Nat)
    (hg : a.eval g = f) (hS : Sq encJ w f l X)
    (I Bk : Nat → List (Jb × Nat) → World → Prop) (E : World → Prop)
    (hI : ∀ s pre W W', I s pre W → Go.Proofs.YthmfcloecmnfnaaGreat.Sb w.heap.size s W W' → I s pre W') (hBk : ∀ s pre W W', Bk s pre W → Go.Proofs.YthmfcloecmnfnaaGreat.Sb w.heap.size s W W' → Bk s pre W')
    (hIs : ∀ s pre W, I s pre W → s ≤ W.heap.size)
    (hstart : ∀ W0, Below w.heap.size w W0 → w.heap.size + 2 ≤ W0.heap.size → I W0.heap.size [] W0)
    (hassign : ∀ (m l' : Nat) (x : Jb × Nat) (W : World) (K : Act → World → Prop), K { tmps := ((a.tmps.setIfInBounds p1 (.int .i64 (x.2 : Int))).setIfInBounds p2 (.agg (Jb.c x.1).toArray)).setIfInBounds r (.pointer (some ⟨W.heap.size, 0, none⟩)), defers := [] } (W.alloc (.cells (Jb.c x.1).toArray 46)) →
      assign.wpIn (Fence.wide.inRound l') m Tryz.prog (Exit.then K (fun _ _ _ => False)) { tmps := (a.tmps.setIfInBounds p1 (.int .i64 (x.2 : Int))).setIfInBounds p2 (.agg (Jb.c x.1).toArray), defers := [] } W)
    (hbody : ∀ (m l' : Nat) (s b : Nat) (pre : List (Jb × Nat)) (x : Jb × Nat) (Wp W : World), I s pre Wp → Go.Proofs.YthmfcloecmnfnaaGreat.Sb w.heap.size s Wp W → Wp.heap.size ≤ b → W.heap[b]? = some (.cells (Jb.c x.1).toArray 46 (0, 0)) → pre ++ [x] <+: l →
      body.wpIn (Fence.wide.inRound l') m Tryz.prog (ownPostX w.heap.size (Kq (fun k => X k ∨ (w.heap.size + 2 ≤ k ∧ k < s) ∨ (Wp.heap.size ≤ k ∧ k < b))) (I s) (fun c pre W => c = .exit id ∧ Bk s pre W) (pre ++ [x]) W) { tmps := ((a.tmps.setIfInBounds p1 (.int .i64 (x.2 : Int))).setIfInBounds p2 (.agg (Jb.c x.1).toArray)).setIfInBounds r (.pointer (some ⟨b, 0, none⟩)), defers := [] } W)
    (hdone : ∀ (s : Nat) (W : World), I s l W → E W) (hstop : ∀ (s : Nat) (pre : List (Jb × Nat)) (W : World), Bk s pre W → E W)
    (hend : ∀ (W : World), E W → W.heap[w.heap.size]? = some (.deferred (some [])) → Q2 .normal { a with defers := { target := .collected w.heap.size, args := #[] } :: a.defers } W) :
    (Code.rangeFunc g #[p1, p2] assign body).wpIn Fence.wide n Tryz.prog (Exit.inBlock id Q2) a w := by
  refine range_jb r hg hS I (fun s c pre W => c = .exit id ∧ Bk s pre W) hI (fun s c pre W W' h hs => ⟨h.1, hBk s pre W W' h.2 hs⟩) hIs hstart hassign hbody
    (fun s W h hD => hend W (hdone s W h) hD) (fun s c pre W h hD => ?_)
  obtain ⟨rfl, hb⟩ := h
  have h1 := hend W (hstop s pre W hb) hD
  refine wpIn_exit ?_
  simpa [Exit.inBlock] using h1

theorem wpIn_one {F : Fence} {n : Nat} {P : Program} {c : Code} {Q : Exit → Act → World → Prop} {a : Act} {w : World} {aF : Act} {wF : World} (h : c.wpIn F n P (fun e a' w' => e = .normal ∧ a' = aF ∧ w' = wF) a w) (hQ : Q .normal aF wF) : c.wpIn F n P Q a w :=
  wpIn_mono h (by rintro e a' w' ⟨rfl, rfl, rfl⟩; exact hQ)

def actJ (wk : List UInt8) (un : Int) (j : Jb) : Jb := { j with wkr := wk, unt := un }
def actR (wk : List UInt8) (un : Int) (j : Jb) : Rc := ⟨0, 7, 0, 0, j.key, 0, 0, un, 0, wk, [], [], .slice none 0 0, []⟩
def nx (s : St) (ps : Nat) : St := { s with pos := up1 s.pos, done := max s.done ps }
def actS (ps : Nat) (wk : List UInt8) (un : Int) (s : St) (l : List (Jb × Nat)) : St := l.foldl (fun T x => eTaken (nx T ps) (actR wk un x.1)) s
def stamp (k : Wo) (r : Rc) : Rc := ({ r with cl := 2, fr := k.ps, tm := k.nw } : Rc).e
/-- what Activate leaves of a work: its state, its events -/
structure ActP (k : Wo) (wk : List UInt8) (un : Int) (l : List (Jb × Nat)) (k' : Wo) : Prop where
  st : k'.s.e = if l.length = 0 then nx k.s.e k.ps else actS k.ps wk un k.s.e l
  el : k'.el.map Rc.e = k.el.map Rc.e ++ if l.length = 0 then [stamp k ⟨0, 24, 0, 0, 0, 0, 0, 0, 0, [], [], [], .slice none 0 0, []⟩] else l.map (fun x => stamp k (actR wk un x.1))
theorem Wk.obj {B : Nat} {w : World} {g : Nat} {k : Wo} (h : Wk B w g k) {b : Nat} (hb : k.has g b) : ∃ o : Obj, w.heap[b]? = some o ∧ o.isCells = true := by
  obtain ⟨r, hr, e⟩ := hb
  obtain ⟨_, cur, hx⟩ := row_obj (Own.own h r hr) e
  exact ⟨_, hx, rfl⟩
theorem Wo.has_g (k : Wo) (g : Nat) : k.has g g := ⟨_, List.mem_cons_self .., rfl⟩
theorem Wo.has_ev {k : Wo} {g b : Nat} (h : k.ev.ownBlock = some b) : k.has g b := ⟨Rc.rw k.ev k.el, List.mem_cons_of_mem _ (List.mem_cons_self ..), h⟩
/-- what Activate has laid: its boxes from n on, the range being begun in w1 -/
structure Ai (w0 : World) (n : Nat) (w1 : World) (B g : Nat) (k : Wo) (wk : List UInt8) (un mo : Int) (s : Nat) (pre : List (Jb × Nat)) (W : World) (gv : Value) (k' : Wo) : Prop where
  b5 : Bx W n (.pointer (some ⟨g, 0, none⟩)) 49
  b7 : Bx W (n + 1) (.string (S wk)) 9
  b8 : Bx W (n + 2) (.int .i64 mo) 2
  b12 : Bx W (n + 3) (.int .i64 un) 2
  b13 : Bx W (n + 4) gv 26
  wr : Wkr B w0 g k k' W
  n0 : w0.heap.size = n
  st : k'.s.e = actS k.ps wk un k.s.e pre
  sz : Sz k'.s
  el : k'.el.map Rc.e = k.el.map Rc.e ++ pre.map (fun x => stamp k (actR wk un x.1))
  row : W.ownsRow s 46 6 gv pre.length ((pre.map (fun x => actJ wk un x.1)).flatMap Jb.c)
  off : ∀ b, gv.ownBlock = some b → ¬ k'.has g b
  new : ∀ b, k'.has g b → b < n ∨ s ≤ b
  sn : w1.heap.size + 2 ≤ s ∧ s ≤ W.heap.size
  nn : n + 5 ≤ w1.heap.size
  bn : B ≤ n
theorem Ai.sb {w0 : World} {n : Nat} {w1 : World} {B g : Nat} {k : Wo} {wk : List UInt8} {un mo : Int} {s : Nat} {pre : List (Jb × Nat)} {W W' : World} {gv : Value} {k' : Wo} (h : Ai w0 n w1 B g k wk un mo s pre W gv k') (hs : Go.Proofs.YthmfcloecmnfnaaGreat.Sb w1.heap.size s W W') : Ai w0 n w1 B g k wk un mo s pre W' gv k' := by
  have hnn := h.nn
  have hsn := h.sn
  have hX : ∀ b, k'.has g b → ¬ (w1.heap.size ≤ b ∧ (b < s ∨ ∃ o : Obj, W.heap[b]? = some o ∧ o.isCells = false)) := by
    rintro b hb ⟨h1, h2 | ⟨o, h2, h3⟩⟩
    · have := h.new b hb; omega
    · obtain ⟨o', h4, h5⟩ := h.wr.wk.obj hb
      rw [h2] at h4; cases h4; rw [h3] at h5; cases h5
  exact ⟨hs.bx h.b5 (.inl (by omega)), hs.bx h.b7 (.inl (by omega)), hs.bx h.b8 (.inl (by omega)), hs.bx h.b12 (.inl (by omega)), hs.bx h.b13 (.inl (by omega)),
    ⟨h.wr.wk.ch hs hX, h.wr.pt, h.wr.ps, h.wr.nw, chJoin h.wr.ch hs (fun x hx hY => by have := hY.1; have := h.n0; omega), h.wr.ev, h.wr.new⟩, h.n0, h.st, h.sz, h.el, hs.row h.row (Nat.le_refl _), h.off, h.new, ⟨hsn.1, Nat.le_trans hsn.2 hs.size⟩, hnn, h.bn⟩
/-- one more is given -/
theorem Ai.step {w0 : World} {n : Nat} {w1 : World} {B g : Nat} {k : Wo} {wk : List UInt8} {un mo : Int} {s : Nat} {pre : List (Jb × Nat)} {W : World} {ga : Option Addr} {gc : Nat} {k' : Wo} (h : Ai w0 n w1 B g k wk un mo s pre W (.slice ga pre.length gc) k') (hkn : ∀ b, k.has g b → b < n) {b : Nat} (x : Jb × Nat) (hb : ¬ k'.has g b ∧ (Value.slice ga pre.length gc).ownBlock ≠ some b ∧ s ≤ b)
    {Wx : World} (hx : Ch (fun y => y = b) W Wx) {w8 : World} {k'' : Wo} (hE : Wkr B Wx g k' k'' w8) (hT : k''.s.e = eTaken (nx k'.s.e k'.ps) (actR wk un x.1)) (hS : Sz k''.s) (hEl : k''.el.map Rc.e = k'.el.map Rc.e ++ [stamp k' (actR wk un x.1)])
    {w9 : World} {o : Obj} {gv' : Value} (hown : w9.ownsRow s 46 6 gv' (pre.length + 1) ((pre.map (fun x => actJ wk un x.1)).flatMap Jb.c ++ Jb.c (actJ wk un x.1))) (hg : (w8.alloc o).grownBy w9 (Value.slice ga pre.length gc).ownBlock) (hnew : ∀ y, gv'.ownBlock = some y → (Value.slice ga pre.length gc).ownBlock = some y ∨ w8.heap.size ≤ y) :
    Ai w0 n w1 B g k wk un mo s (pre ++ [x]) (w9.setCell ⟨n + 4, 0, none⟩ gv') gv' k'' ∧ Bx w9 (n + 4) (.slice ga pre.length gc) 26 ∧ Bx w9 (n + 2) (.int .i64 mo) 2 ∧
      Ch (fun y => y = b ∨ y = g ∨ k'.ev.ownBlock = some y ∨ y = n + 4 ∨ (Value.slice ga pre.length gc).ownBlock = some y) W (w9.setCell ⟨n + 4, 0, none⟩ gv') := by
  have hnn := h.nn
  obtain ⟨hsn1, hsn2⟩ := h.sn
  have hgn : g < n := by
    exact hkn g (k.has_g g)
  have hev : ∀ y, k'.ev.ownBlock = some y → y < n ∨ s ≤ y := fun y hy => h.new y (Wo.has_ev hy)
  have hrow : ∀ y, (Value.slice ga pre.length gc).ownBlock = some y → s ≤ y ∧ ∃ cur, W.heap[y]? = some (.cells cur 46 (0, 0)) := fun y hy => row_obj h.row hy
  -- from W to w8
  have hc8 : Ch (fun y => y = b ∨ y = g ∨ k'.ev.ownBlock = some y) W w8 := chJoin (hx.mono (fun y _ e => .inl e)) hE.ch (fun y _ e => .inr e)
  have hc9 : Ch (fun y => y = b ∨ y = g ∨ k'.ev.ownBlock = some y ∨ (Value.slice ga pre.length gc).ownBlock = some y) W w9 :=
    chJoin ((hc8.alloc o).mono (fun y _ e => e.imp id (fun e => e.imp id .inl))) (Ch.of_grown hg (fun y e _ => e)) (fun y _ e => .inr (.inr (.inr e)))
  have low : ∀ i, i ≤ 4 → ¬ (n + i = b ∨ n + i = g ∨ k'.ev.ownBlock = some (n + i) ∨ (Value.slice ga pre.length gc).ownBlock = some (n + i)) := by
    rintro i hi (e | e | e | e)
    · have := hb.2.2; omega
    · omega
    · have := hev _ e; omega
    · have := (hrow _ e).1; omega
  have c5 := h.b5.ch hc9 (by simpa using low 0 (by omega))
  have c7 := h.b7.ch hc9 (low 1 (by omega))
  have c8 := h.b8.ch hc9 (low 2 (by omega))
  have c12 := h.b12.ch hc9 (low 3 (by omega))
  have c13 := h.b13.ch hc9 (low 4 (by omega))
  have hput : Ch (fun y => y = n + 4) w9 (w9.setCell ⟨n + 4, 0, none⟩ gv') := (Ch.refl _ w9).setCell _ _ (fun _ => rfl)
  have hWs : W.heap.size ≤ w8.heap.size := hc8.size
  have h89 : Ch (fun y => (Value.slice ga pre.length gc).ownBlock = some y) w8 w9 := ((Ch.refl _ w8).alloc o).trans (Ch.of_grown hg (fun y e _ => e))
  have hWx : W.heap.size ≤ Wx.heap.size := hx.size
  have newk : ∀ y, k''.has g y → k'.has g y ∨ W.heap.size ≤ y := fun y hy => (hE.new y hy).imp id (fun e => Nat.le_trans hWx e)
  have hk4 : ∀ y, k''.has g y → ¬ y = n + 4 := fun y hy e => by
    rcases newk y hy with e2 | e2
    · rcases h.new y e2 with e3 | e3 <;> omega
    · omega
  have hkg : ∀ y, k''.has g y → ¬ (Value.slice ga pre.length gc).ownBlock = some y := fun y hy e => by
    rcases newk y hy with e2 | e2
    · exact h.off y e e2
    · obtain ⟨_, cur, hc⟩ := hrow y e
      have := (Array.getElem?_eq_some_iff.1 hc).1
      omega
  have wk9 := hE.wk.ch h89 hkg
  have wkF := wk9.ch hput hk4
  have hn0 := h.n0
  have hWkr : Wkr B w0 g k k'' (w9.setCell ⟨n + 4, 0, none⟩ gv') := by
    refine ⟨wkF, hE.pt.trans h.wr.pt, hE.ps.trans h.wr.ps, hE.nw.trans h.wr.nw, ?_, ?_, ?_⟩
    · refine chJoin (chJoin h.wr.ch hc9 (fun y hy e => ?_)) hput (fun y hy e => absurd e (by omega))
      rcases e with e | e | e | e
      · have := hb.2.2; omega
      · exact .inl e
      · exact (h.wr.ev y e).elim .inr (fun e => by omega)
      · have := (hrow y e).1; omega
    · intro y hy
      rcases hE.ev y hy with e | e
      · exact h.wr.ev y e
      · right; have := h.wr.ch.size; omega
    · intro y hy
      rcases newk y hy with e | e
      · exact h.wr.new y e
      · right; have := h.wr.ch.size; omega
  refine ⟨⟨Bx.ch c5 hput (by omega), Bx.ch c7 hput (by omega), Bx.ch c8 hput (by omega), Bx.ch c12 hput (by omega), one0 c13 _, hWkr, hn0, ?_, hS, ?_, ?_, ?_, ?_, ⟨hsn1, by have := hc9.size; have := hput.size; omega⟩, hnn, h.bn⟩, c13, c8, chJoin (hc9.mono (fun y _ e => e.imp id (fun e => e.imp id (fun e => e.imp id .inr)))) hput (fun y _ e => .inr (.inr (.inr (.inl e))))⟩
  · rw [hT, h.st, h.wr.ps]; simp [actS, List.foldl_append]
  · rw [hEl, h.el, List.map_append, List.append_assoc]
    congr 2
    simp [stamp, h.wr.ps, h.wr.nw]
  · rw [List.length_append, List.map_append, List.flatMap_append]
    have := hput.row hown (fun y hy e => by
      rcases hnew y hy with e2 | e2
      · have := (hrow y e2).1; omega
      · omega)
    simpa using this
  · intro y hy hh
    rcases hnew y hy with e | e
    · exact hkg y hh e
    · have := (hE.wk.has_lt hh).2; omega
  · intro y hy
    rcases newk y hy with e | e
    · exact h.new y e
    · right; omega
/-- what Activate comes to -/
structure Apo (B : Nat) (w : World) (g : Nat) (k : Wo) (wk : List UInt8) (un : Int) (M : List (Jb × Nat)) (gv : Value) (k' : Wo) (W : World) : Prop where
  wr : Wkr B w g k k' W
  sz : Sz k'.s
  ac : ActP k wk un M k'
  row : W.ownsRow w.heap.size 46 6 gv M.length ((M.map (fun x => actJ wk un x.1)).flatMap Jb.c)
  off : ∀ b, gv.ownBlock = some b → ¬ k'.has g b
theorem Apo.put {B : Nat} {w : World} {g : Nat} {k : Wo} {wk : List UInt8} {un : Int} {M : List (Jb × Nat)} {gv : Value} {k' : Wo} {W : World} (h : Apo B w g k wk un M gv k' W) {d : Nat} {o : Obj} (hD : W.heap[d]? = some o) (ho : o.isCells = false) (hd : w.heap.size ≤ d) (o' : Obj) : Apo B w g k wk un M gv k' (W.putObj d o') := by
  have hc : Ch (fun y => y = d) W (W.putObj d o') := Ch.of_grown (grownBy_putObj' W d o') (fun y e _ => by cases e; rfl)
  refine ⟨⟨h.wr.wk.ch hc (fun y hy e => ?_), h.wr.pt, h.wr.ps, h.wr.nw, chJoin h.wr.ch hc (fun y hy e => by omega), h.wr.ev, h.wr.new⟩, h.sz, h.ac, hc.row h.row (fun y hy e => ?_), h.off⟩
  · obtain ⟨o2, h1, h2⟩ := h.wr.wk.obj hy
    rw [e, hD] at h1; cases h1; rw [ho] at h2; cases h2
  · obtain ⟨_, cur, h1⟩ := row_obj h.row hy
    rw [e, hD] at h1; cases h1; cases ho
theorem Ai.fin {w0 : World} {n : Nat} {w1 : World} {B g : Nat} {k : Wo} {wk : List UInt8} {un mo : Int} {s : Nat} {M : List (Jb × Nat)} {W : World} {gv : Value} {k' : Wo} (h : Ai w0 n w1 B g k wk un mo s M W gv k') (hM : ¬ M.length = 0) : Apo B w0 g k wk un M gv k' W :=
  ⟨h.wr, h.sz, ⟨by rw [if_neg hM]; exact h.st, by rw [if_neg hM]; exact h.el⟩, row_low h.row (by have := h.n0; have := h.nn; have := h.sn; omega), h.off⟩
theorem Ai.fin0 {w0 : World} {n : Nat} {w1 : World} {B g : Nat} {k : Wo} {wk : List UInt8} {un mo : Int} {s : Nat} {W : World} {gv : Value} {k' : Wo} (hg : g < w0.heap.size) (h : Ai w0 n w1 B g k wk un mo s [] W gv k') {w8 : World} {k'' : Wo} (hE : Wkr B W g k' k'' w8) (hT : k''.s.e = nx k'.s.e k'.ps) (hS : Sz k''.s) (hEl : k''.el.map Rc.e = k'.el.map Rc.e ++ [stamp k' ⟨0, 24, 0, 0, 0, 0, 0, 0, 0, [], [], [], .slice none 0 0, []⟩]) : Apo B w0 g k wk un [] gv k'' w8 := by
  have hoff : ∀ y, gv.ownBlock = some y → ¬ k''.has g y := fun y hy hh => by
    rcases hE.new y hh with e | e
    · exact h.off y hy e
    · have := (h.row.lt y hy).2; omega
  refine ⟨Wkr.trans hg h.wr hE, hS, ⟨?_, ?_⟩, ?_, hoff⟩
  · rw [if_pos (by rfl), hT, h.st, h.wr.ps]; rfl
  · rw [if_pos (by rfl), hEl, h.el]
    simp [stamp, h.wr.ps, h.wr.nw]
  · exact row_low (hE.ch.row h.row (fun y hy e => e.elim (fun e => h.off y hy (e ▸ k'.has_g g)) (fun e => h.off y hy (Wo.has_ev e)))) (by have := h.n0; have := h.nn; have := h.sn; omega)
end Go.Proofs.YthmfcloecmnfnaaGreat.f13
