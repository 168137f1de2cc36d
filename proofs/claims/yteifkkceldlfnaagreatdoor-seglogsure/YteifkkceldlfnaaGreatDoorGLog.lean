/-
  Package seglog: a log as a plain thing, in memory; Append, Flush.
-/
import Derived.Test.YteifkkceldlfnaaGreatDoorGDisk
import Derived.Test.YteifkkceldlfnaaGreatDoorGFrame
import Derived.Lib.ItoaNum
import Derived.Test.YteifkkceldlfnaaGreatDoorG6Lay
import Derived.Lib.AppendIntMem
import Derived.Lib.ItoaLen
import Derived.Deep.AppendLies
import Derived.Deep.RegionLaw
import Derived.LaidEqlPtr
namespace Go.Proofs.YteifkkceldlfnaaGreatDoor
open Go.RowKit Go.Shelf Go.Sort
open Go.Lib hiding intOf

/-- a segment: its first position, its records, its bytes -/
structure Sg where
  first : Nat
  recs : List (List UInt8)
  size : Nat
instance : Inhabited Sg := ⟨⟨0, [], 0⟩⟩
def Sg.next (s : Sg) : Nat := s.first + s.recs.length
/-- a log: how its files are named, how great a segment is, its segments, what is next, what is sure -/
structure Lg where
  pre : ByteArray
  sz : Nat
  segs : List Sg
  next : Nat
  sure : Nat
/-- ten digits at least -/
def dgs (n : Nat) : List UInt8 := List.replicate (10 - (Lib.decDigits n).length) 48 ++ Lib.decDigits n
def nam (pre : ByteArray) (n : Nat) : ByteArray := pre ++ S (45 :: dgs n)
/-- is it a batch? -/
def isB (l : List (List UInt8)) : Bool := decide (1 ≤ l.length ∧ l.length ≤ 256) && l.all (fun r => decide (r.length ≤ 4096))
def lod (n : Nat) (l : List (List UInt8)) : List UInt8 := Lib.uvarint n ++ lst l
def bfr (n : Nat) (l : List (List UInt8)) : List UInt8 := frm 1 (lod n l)
/-- a segment with more -/
def Sg.more (s : Sg) (l : List (List UInt8)) (n : Nat) : Sg := ⟨s.first, s.recs ++ l, s.size + n⟩
/-- why a batch is refused ahead of the disk -/
def gNo (lg : Lg) (l : List (List UInt8)) : Int :=
  if isB l = false then 1 else if 1099511627777 < lg.next + l.length then 4 else if 65536 < (lod lg.next l).length then 1 else 0
/-- the segment that the next frame goes to: an error; the last one, or none: a new one -/
def gRoom (lg : Lg) (st : Ab) : Int × Option Sg × Lg × Ab :=
  match lg.segs.getLast? with
  | none => (0, none, lg, st)
  | some s => if s.size < lg.sz then (0, some s, lg, st) else
    if (aSync st (nam lg.pre s.first)).1 ≠ 0 then ((aSync st (nam lg.pre s.first)).1, none, lg, (aSync st (nam lg.pre s.first)).2)
    else (0, none, { lg with sure := lg.next }, (aSync st (nam lg.pre s.first)).2)
/-- the segments with a batch behind all -/
def segsPut (segs : List Sg) (o : Option Sg) (next : Nat) (l : List (List UInt8)) (n : Nat) : List Sg :=
  match o with
  | some s => segs.dropLast ++ [s.more l n]
  | none => segs ++ [⟨next, l, n⟩]
def gName (pre : ByteArray) (o : Option Sg) (next : Nat) : ByteArray :=
  match o with
  | some s => nam pre s.first
  | none => nam pre next
def gAppend (lg : Lg) (st : Ab) (l : List (List UInt8)) : (Nat × Int) × Lg × Ab :=
  if gNo lg l ≠ 0 then ((0, gNo lg l), lg, st) else
  if (gRoom lg st).1 ≠ 0 then ((0, (gRoom lg st).1), (gRoom lg st).2.2) else
  let r := aApp (gRoom lg st).2.2.2 (gName lg.pre (gRoom lg st).2.1 lg.next) (S (bfr lg.next l))
  if r.1 ≠ 0 then ((0, r.1), (gRoom lg st).2.2.1, r.2) else
  ((lg.next, 0), { (gRoom lg st).2.2.1 with segs := segsPut lg.segs (gRoom lg st).2.1 lg.next l (bfr lg.next l).length, next := lg.next + l.length }, r.2)
def gFlush (lg : Lg) (st : Ab) : Int × Lg × Ab :=
  if lg.sure = lg.next then (0, lg, st) else
  match lg.segs.getLast? with
  | none => (0, lg, st)
  | some s => if (aSync st (nam lg.pre s.first)).1 ≠ 0 then ((aSync st (nam lg.pre s.first)).1, lg, (aSync st (nam lg.pre s.first)).2)
    else (0, { lg with sure := lg.next }, (aSync st (nam lg.pre s.first)).2)
def dropS (pre : ByteArray) (below : Nat) : List Sg → Ab → Int × List Sg × Ab
  | s :: t :: r, st => if s.next ≤ below then (if (aDel st (nam pre s.first)).1 ≠ 0 then ((aDel st (nam pre s.first)).1, s :: t :: r, (aDel st (nam pre s.first)).2) else dropS pre below (t :: r) (aDel st (nam pre s.first)).2) else (0, s :: t :: r, st)
  | l, st => (0, l, st)
def gDrop (lg : Lg) (st : Ab) (below : Nat) : Int × Lg × Ab :=
  ((dropS lg.pre below lg.segs st).1, { lg with segs := (dropS lg.pre below lg.segs st).2.1 }, (dropS lg.pre below lg.segs st).2.2)
def gFirst (lg : Lg) : Nat := match lg.segs with | [] => lg.next | s :: _ => s.first
/-- records with their positions -/
def ent : Nat → List (List UInt8) → List (Nat × List UInt8)
  | _, [] => []
  | n, r :: t => (n, r) :: ent (n + 1) t
def recsOf (segs : List Sg) : List (List UInt8) := segs.flatMap Sg.recs
def gRead (lg : Lg) (pos : Nat) : List UInt8 × Int :=
  if pos < gFirst lg ∨ lg.next ≤ pos then ([], 5) else (((recsOf lg.segs)[pos - gFirst lg]?).getD [], 0)
/-- what a range from a position on tells -/
def gFrom (lg : Lg) (pos : Nat) : List (Nat × List UInt8) := ent (max pos (gFirst lg)) ((recsOf lg.segs).drop (pos - gFirst lg))

/-- the segments are one behind the other -/
def Cn : List Sg → Nat → Prop
  | [], _ => True
  | [s], n => s.next = n
  | s :: t :: r, n => s.next = t.first ∧ s.recs ≠ [] ∧ Cn (t :: r) n
structure Ok (lg : Lg) : Prop where
  cn : Cn lg.segs lg.next
  low : ∀ s ∈ lg.segs, 1 ≤ s.first
  next : 1 ≤ lg.next ∧ lg.next ≤ 1099511627777
  none : lg.segs = [] → lg.sure = lg.next
  sure : lg.sure ≤ lg.next
  sz : 64 ≤ lg.sz ∧ lg.sz ≤ 65536
  pre : 1 ≤ lg.pre.size ∧ lg.pre.size ≤ 8
  size : ∀ s ∈ lg.segs, s.size ≤ 1048576
  full : ∀ s ∈ lg.segs, s.recs = [] → s.size = 0

theorem Cn.tail {s : Sg} {r : List Sg} {n : Nat} (h : Cn (s :: r) n) : Cn r n := by
  cases r with
  | nil => trivial
  | cons t r => exact h.2.2
theorem Cn.le : ∀ {segs : List Sg} {n : Nat}, Cn segs n → ∀ s ∈ segs, s.next ≤ n
  | [], _, _, _, hs => by cases hs
  | [s], _, h, x, hx => by
    rcases List.mem_singleton.1 hx with rfl
    exact Nat.le_of_eq h
  | s :: t :: r, n, h, x, hx => by
    rcases List.mem_cons.1 hx with rfl | hx
    · have := Cn.le h.2.2 t (List.mem_cons_self ..)
      have h1 := h.1
      unfold Sg.next at *
      omega
    · exact Cn.le h.2.2 x hx
theorem Cn.last : ∀ {segs : List Sg} {n : Nat}, Cn segs n → ∀ s, segs.getLast? = some s → s.next = n
  | [], _, _, _, hs => by cases hs
  | [s], _, h, x, hx => by
    obtain rfl : s = x := by simpa using hx
    exact h
  | s :: t :: r, n, h, x, hx => Cn.last h.2.2 x (by simpa [List.getLast?_cons_cons] using hx)
/-- the last one is put in another's place -/
theorem Cn.put : ∀ {segs : List Sg} {s s' : Sg} {n n' : Nat}, Cn (segs ++ [s]) n → s'.first = s.first → s'.next = n' → Cn (segs ++ [s']) n'
  | [], _, _, _, _, _, _, h2 => h2
  | [_], _, _, _, _, h, h1, h2 => ⟨h.1.trans h1.symm, h.2.1, h2⟩
  | _ :: b :: r, _, _, _, _, h, h1, h2 => ⟨h.1, h.2.1, Cn.put (segs := b :: r) h.2.2 h1 h2⟩
/-- one more behind all -/
theorem Cn.snoc : ∀ {segs : List Sg} {s : Sg} {n n' : Nat}, Cn segs n → (∀ x, segs.getLast? = some x → x.recs ≠ []) → s.first = n → s.next = n' → Cn (segs ++ [s]) n'
  | [], _, _, _, _, _, _, h2 => h2
  | [a], _, _, _, h, hl, h1, h2 => ⟨h.trans h1.symm, hl a rfl, h2⟩
  | _ :: b :: r, _, _, _, h, hl, h1, h2 => ⟨h.1, h.2.1, Cn.snoc (segs := b :: r) h.2.2 (fun x hx => hl x (by simpa [List.getLast?_cons_cons] using hx)) h1 h2⟩
theorem ent_length : ∀ (n : Nat) (l : List (List UInt8)), (ent n l).length = l.length
  | _, [] => rfl
  | n, r :: t => by simp [ent, ent_length (n + 1) t]
theorem ent_get : ∀ (n : Nat) (l : List (List UInt8)) (i : Nat), (ent n l)[i]? = l[i]?.map (fun r => (n + i, r))
  | _, [], i => by simp [ent]
  | n, r :: t, 0 => by simp [ent]
  | n, r :: t, i + 1 => by
    simp only [ent, List.getElem?_cons_succ, ent_get (n + 1) t i]
    cases t[i]? <;> simp <;> omega
theorem ent_append : ∀ (n : Nat) (a b : List (List UInt8)), ent n (a ++ b) = ent n a ++ ent (n + a.length) b
  | n, [], b => by simp [ent]
  | n, r :: t, b => by
    simp only [List.cons_append, ent, ent_append (n + 1) t b, List.length_cons]
    rw [show n + 1 + t.length = n + (t.length + 1) by omega]
theorem Cn.recs : ∀ {segs : List Sg} {n : Nat}, Cn segs n → ∀ s r, segs = s :: r → s.first + (recsOf segs).length = n
  | [], _, _, _, _, e => by cases e
  | [s], n, h, x, r, e => by
    cases e
    have : s.next = n := h
    simpa [recsOf, Sg.next] using this
  | s :: t :: r, n, h, x, q, e => by
    cases e
    have h1 := Cn.recs h.2.2 t r rfl
    have h2 := h.1
    simp only [recsOf, List.flatMap_cons, List.length_append] at h1 ⊢
    unfold Sg.next at h2
    omega
theorem Ok.recs {lg : Lg} (h : Ok lg) : gFirst lg + (recsOf lg.segs).length = lg.next := by
  unfold gFirst
  cases hs : lg.segs with
  | nil => simp [recsOf]
  | cons s r =>
    have := h.cn.recs s r hs
    rw [hs] at this
    exact this
theorem Ok.first {lg : Lg} (h : Ok lg) : 1 ≤ gFirst lg ∧ gFirst lg ≤ lg.next := by
  have h1 := h.recs
  refine ⟨?_, by omega⟩
  unfold gFirst
  cases hs : lg.segs with
  | nil => exact h.next.1
  | cons s r => exact h.low s (by rw [hs]; exact List.mem_cons_self ..)
theorem Ok.seg {lg : Lg} (h : Ok lg) {s : Sg} (hs : s ∈ lg.segs) : 1 ≤ s.first ∧ s.next ≤ 1099511627777 ∧ s.recs.length ≤ 1099511627776 ∧ s.size ≤ 1048576 := by
  have h1 := h.low s hs
  have h2 := h.cn.le s hs
  have h3 := h.next.2
  have h4 := h.size s hs
  unfold Sg.next at *
  omega
end Go.Proofs.YteifkkceldlfnaaGreatDoor
namespace Go.Proofs.YteifkkceldlfnaaGreatDoor
open Go.RowKit Go.Shelf Go.Sort
open Go.Lib hiding intOf

/-- what the program's variables hold, below block B -/
def Gv (B : Nat) (w : World) : Prop := Lib.TabBelow Tryz.prog B w "internal/strconv.uint64pow10" .u64 Lib.pow10Tab
theorem Gv.below {B : Nat} {w w' : World} (h : Gv B w) (hb : Below B w w') : Gv B w' := fun W hW => h W (hb.trans hW)
theorem Gv.here {B : Nat} {w : World} (h : Gv B w) : Lib.TabIs Tryz.prog w "internal/strconv.uint64pow10" .u64 Lib.pow10Tab := h w (Below.refl _ _)

theorem holds0 (w : World) (T : TypeId) (nd : Nat) (hs : nd ≤ 24) : Holds (fun (b : UInt8) => Value.int .u8 (b.toNat : Int)) (w.alloc (.cells Lib.zeros24 T)) w.heap.size 0 (Array.replicate nd (0 : UInt8)) := fun j hj => by
  have hj' : j < nd := by simpa using hj
  refine ⟨?_, World.frozen?_alloc_new _ _ _ _⟩
  rw [World.cell?_alloc_new, Lib.zeros24_at _ (by omega), getElem!_pos _ j hj]
  simp
theorem fin0 (w : World) (o : Obj) (dk : Array UInt8) (k : Nat) : ∃ os, (putRow (fun (b : UInt8) => Value.int .u8 (b.toNat : Int)) (w.alloc o) w.heap.size 0 dk).drewN k = grow (w.drewN k) os := by
  rw [alloc_eq_grow]
  obtain ⟨os', _, e⟩ := putRow_grow_new (fun (b : UInt8) => Value.int .u8 (b.toNat : Int)) w #[o] w.heap.size 0 dk (Nat.le_refl _)
  exact ⟨os', by rw [e]; rfl⟩
set_option maxRecDepth 100000 in
set_option maxHeartbeats 2000000 in
theorem fmtIn (u : Nat) (hu64 : u < 18446744073709551616) (w : World) (htab : Lib.TabIs Tryz.prog w "internal/strconv.uint64pow10" .u64 Lib.pow10Tab) :
    Calls Tryz.prog 136 #[.int .u64 (u : Int), .int .i64 10] w fun e w' => e = .returned (.string (S (Lib.decDigits u))) ∧ Below w.heap.size w w' := by
  by_cases hs : u < 100
  · have hs' : (u : Int) < 100 := by omega
    have hc := Any.internal_strconv_small { fmtLay with } u hs w
    change Calls Tryz.prog 169 _ _ _ at hc
    go_enter Tryz.func136, Tryz.ntmps136
    go_wp2_with (go_at_call 169; refine hc.mono ?_; rintro e w' ⟨rfl, rfl⟩)
    go_ret
    exact ⟨rfl, Below.refl _ _⟩
  · have hs' : ¬ (u : Int) < 100 := by omega
    have hu1 : 1 ≤ u := by omega
    have hnd20 : Lib.nDigits u ≤ 20 := by have := Lib.numDigits_eq u hu1 hu64; split at this <;> omega
    have hal : Tryz.prog.arrayLen 234 = 24 := by kernel_rfl
    have hsl1 : ∀ W, (Instr.sliceAt 234 (.pointer (some ⟨w.heap.size, 0, none⟩)) none (some (.int .i64 (Lib.nDigits u : Int))) none).run Tryz.prog W = .ok (.slice (some ⟨w.heap.size, 0, none⟩) (Lib.nDigits u) 24) W := fun W => by
      rw [run_sliceAt_array_h W 234 ⟨w.heap.size, 0, none⟩ (by kernel_rfl) .i64 (Lib.nDigits u : Int) (by omega) (by rw [hal]; omega)]
      go_simp
    have hH0 := holds0 w 234 (Lib.nDigits u) (by omega)
    have hfmt := Any.internal_strconv_formatBase10 { fmtLay with } w.heap.size 0 24 u (Array.replicate (Lib.nDigits u) 0) (w.alloc (.cells Lib.zeros24 234)) hH0 (by rw [Array.size_replicate]; exact Lib.lt_pow_nDigits u) hu64 (by rw [Array.size_replicate]; omega)
    rw [Array.size_replicate] at hfmt
    change Calls Tryz.prog 171 _ _ _ at hfmt
    have hnd := Any.internal_strconv_numDigits { fmtLay with } u hu1 hu64 (w.alloc (.cells Lib.zeros24 234)) (Lib.tabIs_alloc htab _)
    change Calls Tryz.prog 170 _ _ _ at hnd
    have HH0 := Lib.hid hH0
    clear hH0 hal htab
    go_enter Tryz.func136, Tryz.ntmps136
    go_wp2_with (first
      | (go_at_call 170; refine hnd.mono ?_; rintro e w' ⟨rfl, rfl⟩))
    go_at_call 171
    refine hfmt.mono ?_
    rintro e w' ⟨rfl, k, v', dk, rfl, hF⟩
    have hcv : (convert 116 9 (.slice (some ⟨w.heap.size, 0, none⟩) (Lib.nDigits u) 24)).run Tryz.prog ((putRow (fun (b : UInt8) => Value.int .u8 (b.toNat : Int)) (w.alloc (.cells Lib.zeros24 234)) w.heap.size 0 dk).drewN k) = .ok (.string ⟨(Lib.decDigits u).toArray⟩) ((putRow (fun (b : UInt8) => Value.int .u8 (b.toNat : Int)) (w.alloc (.cells Lib.zeros24 234)) w.heap.size 0 dk).drewN k) := by
      have h := run_convert_bytes_back (P := Tryz.prog) ((putRow (fun (b : UInt8) => Value.int .u8 (b.toNat : Int)) (w.alloc (.cells Lib.zeros24 234)) w.heap.size 0 dk).drewN k) 116 9 5 ⟨w.heap.size, 0, none⟩ 24 (Lib.decDigits u) Tryz.underlying116 Tryz.underlying5 Tryz.underlying9 (fun j hj => by
        rw [Lib.row_is_numeral hF j hj, Lib.add_plain, World.cell?_drewN]
        exact cell?_putRow (fun (b : UInt8) => Value.int .u8 (b.toNat : Int)) _ w.heap.size 0 _ dk HH0.out (by rw [hF.size, Array.size_replicate]) j (by rw [hF.size]; rw [Lib.decDigits_length] at hj; exact hj))
      rw [Lib.decDigits_length] at h
      exact h
    go_wp2
    go_ret
    obtain ⟨os, eo⟩ := fin0 w (.cells Lib.zeros24 234) dk k
    refine ⟨rfl, ?_⟩
    change Below w.heap.size w ((putRow (fun (b : UInt8) => Value.int .u8 (b.toNat : Int)) (w.alloc (.cells Lib.zeros24 234)) w.heap.size 0 dk).drewN k)
    rw [eo]
    exact Lib.below_grow _ _ (Nat.le_refl _) _ _
theorem fmtU (u : Nat) (hu64 : u < 18446744073709551616) (w : World) (htab : Lib.TabIs Tryz.prog w "internal/strconv.uint64pow10" .u64 Lib.pow10Tab) :
    Calls Tryz.prog 119 #[.int .u64 (u : Int), .int .i64 10] w fun e w' => e = .returned (.string (S (Lib.decDigits u))) ∧ Below w.heap.size w w' := by
  have hc := fmtIn u hu64 w htab
  go_enter Tryz.func119, Tryz.ntmps119
  go_wp2_with (go_at_call 136; refine hc.mono ?_; rintro e w' ⟨rfl, hb⟩; have HB : Hid _ := hb; clear hb)
  go_ret
  exact ⟨rfl, HB.out⟩
theorem repX : Builder.Extra Tryz.prog repLay_ren := {
  sizeBuilder := by kernel_rfl
  liesBuilder := by kernel_rfl
  t5 := Tryz.underlying5
  a5 := Tryz.isAgg5
  z5 := Tryz.sizeOf5
  v5 := Tryz.zeroValue5
  infoByte := by kernel_rfl
  cellsByte := by kernel_rfl
  sizeByte := by kernel_rfl
  neB5 := by decide }
theorem rep_any (s : ByteArray) (c : Nat) (w : World) (hc : c ≤ 9223372036854775807) (hlen : s.size * c ≤ 140737488355328) :
    Calls Tryz.prog 120 #[.string s, .int .i64 (c : Int)] w fun e w' => e = .returned (.string ⟨(Lib.repeatL s.data.toList c).toArray⟩) ∧ Below w.heap.size w w' := Any.strings_Repeat repLay repX s c w hc hlen
theorem repeat_one : ∀ c, Lib.repeatL [48] c = List.replicate c 48
  | 0 => rfl
  | c + 1 => by rw [Lib.repeatL, repeat_one c]; rfl
end Go.Proofs.YteifkkceldlfnaaGreatDoor
namespace Go.Proofs.YteifkkceldlfnaaGreatDoor
open Go.RowKit Go.Shelf Go.Sort
open Go.Lib hiding intOf
variable {lg : Lg} {st : Ab} {l : List (List UInt8)}

theorem uv_len (n : Nat) (h : n < 18446744073709551616) : 1 ≤ (Lib.uvarint n).length ∧ (Lib.uvarint n).length ≤ 10 := ⟨Lib.uvarint_pos n, Lib.uvarint_length64 h⟩
theorem frm_len (k : UInt8) (l : List UInt8) (h : l.length ≤ 65536) : 6 ≤ (frm k l).length ∧ (frm k l).length ≤ 65551 := by
  have := uv_len l.length (by omega)
  unfold frm txt
  simp only [List.length_append, List.length_cons, four_length]
  omega
theorem gNo_zero (h : gNo lg l = 0) : isB l = true ∧ lg.next + l.length ≤ 1099511627777 ∧ (lod lg.next l).length ≤ 65536 := by
  unfold gNo at h
  cases hb : isB l with
  | false => rw [hb] at h; simp at h
  | true =>
    rw [hb] at h
    simp only [Bool.true_eq_false, if_false] at h
    by_cases h1 : 1099511627777 < lg.next + l.length
    · rw [if_pos h1] at h; cases h
    · rw [if_neg h1] at h
      by_cases h2 : 65536 < (lod lg.next l).length
      · rw [if_pos h2] at h; cases h
      · exact ⟨rfl, by omega, by omega⟩
theorem isB_iff : isB l = true ↔ (1 ≤ l.length ∧ l.length ≤ 256) ∧ ∀ r ∈ l, r.length ≤ 4096 := by
  unfold isB
  simp [List.all_eq_true]
/-- which segment the next frame goes to -/
theorem room_split (lg : Lg) (st : Ab) :
    ((gRoom lg st).1 ≠ 0 ∧ (gRoom lg st).2.2.1 = lg) ∨
    ((gRoom lg st).1 = 0 ∧ (gRoom lg st).2.1 = none ∧ lg.segs = [] ∧ (gRoom lg st).2.2 = (lg, st)) ∨
    ((gRoom lg st).1 = 0 ∧ (gRoom lg st).2.1 = none ∧ (∃ xs s, lg.segs = xs ++ [s] ∧ lg.sz ≤ s.size ∧ (gRoom lg st).2.2.2 = (aSync st (nam lg.pre s.first)).2 ∧ (aSync st (nam lg.pre s.first)).1 = 0) ∧ (gRoom lg st).2.2.1 = { lg with sure := lg.next }) ∨
    ((gRoom lg st).1 = 0 ∧ (∃ xs s, lg.segs = xs ++ [s] ∧ s.size < lg.sz ∧ (gRoom lg st).2.1 = some s) ∧ (gRoom lg st).2.2 = (lg, st)) := by
  unfold gRoom
  cases hl : lg.segs.getLast? with
  | none => exact .inr (.inl ⟨rfl, rfl, List.getLast?_eq_none_iff.1 hl, rfl⟩)
  | some s =>
    obtain ⟨xs, hx⟩ := List.getLast?_eq_some_iff.1 hl
    simp only
    by_cases h1 : s.size < lg.sz
    · rw [if_pos h1]
      exact .inr (.inr (.inr ⟨rfl, ⟨xs, s, hx, h1, rfl⟩, rfl⟩))
    · rw [if_neg h1]
      by_cases h2 : (aSync st (nam lg.pre s.first)).1 = 0
      · rw [if_neg (by simpa using h2)]
        exact .inr (.inr (.inl ⟨rfl, rfl, ⟨xs, s, hx, by omega, rfl, h2⟩, rfl⟩))
      · rw [if_pos h2]
        exact .inl ⟨h2, rfl⟩
theorem Ok.sureNext (h : Ok lg) : Ok { lg with sure := lg.next } :=
  ⟨h.cn, h.low, h.next, fun _ => rfl, Nat.le_refl _, h.sz, h.pre, h.size, h.full⟩
theorem Ok.putOld {xs : List Sg} {s : Sg} {n : Nat} (h : Ok lg) (hs : lg.segs = xs ++ [s]) (hl : 1 ≤ l.length) (hn : lg.next + l.length ≤ 1099511627777) (hz : s.size + n ≤ 1048576) :
    Ok { lg with segs := xs ++ [s.more l n], next := lg.next + l.length } where
  cn := by
    have h1 := h.cn
    rw [hs] at h1
    have h2 := h.cn.last s (by rw [hs]; simp)
    refine h1.put rfl ?_
    unfold Sg.next Sg.more at *
    simp only [List.length_append]
    omega
  low x hx := by
    rcases List.mem_append.1 hx with hx | hx
    · exact h.low x (by rw [hs]; exact List.mem_append_left _ hx)
    · rcases List.mem_singleton.1 hx with rfl
      exact h.low s (by rw [hs]; simp)
  next := ⟨by have := h.next.1; simp only; omega, hn⟩
  none e := by simp at e
  sure := by have := h.sure; simp only; omega
  sz := h.sz
  pre := h.pre
  size x hx := by
    rcases List.mem_append.1 hx with hx | hx
    · exact h.size x (by rw [hs]; exact List.mem_append_left _ hx)
    · rcases List.mem_singleton.1 hx with rfl
      exact hz
  full x hx e := by
    rcases List.mem_append.1 hx with hx | hx
    · exact h.full x (by rw [hs]; exact List.mem_append_left _ hx) e
    · rcases List.mem_singleton.1 hx with rfl
      have e : s.recs ++ l = [] := e
      have := congrArg List.length e
      rw [List.length_append, List.length_nil] at this
      omega
theorem Ok.putNew {n : Nat} (h : Ok lg) (hf : ∀ s, lg.segs.getLast? = some s → s.recs ≠ []) (hl : 1 ≤ l.length) (hn : lg.next + l.length ≤ 1099511627777) (hz : n ≤ 1048576) :
    Ok { lg with segs := lg.segs ++ [⟨lg.next, l, n⟩], next := lg.next + l.length } where
  cn := h.cn.snoc hf rfl rfl
  low x hx := by
    rcases List.mem_append.1 hx with hx | hx
    · exact h.low x hx
    · rcases List.mem_singleton.1 hx with rfl
      exact h.next.1
  next := ⟨by have := h.next.1; simp only; omega, hn⟩
  none e := by simp at e
  sure := by have := h.sure; simp only; omega
  sz := h.sz
  pre := h.pre
  size x hx := by
    rcases List.mem_append.1 hx with hx | hx
    · exact h.size x hx
    · rcases List.mem_singleton.1 hx with rfl
      exact hz
  full x hx e := by
    rcases List.mem_append.1 hx with hx | hx
    · exact h.full x hx e
    · rcases List.mem_singleton.1 hx with rfl
      have e : l = [] := e
      rw [e] at hl
      simp at hl
theorem Ok.lastFull (h : Ok lg) {xs : List Sg} {s : Sg} (hs : lg.segs = xs ++ [s]) (hz : lg.sz ≤ s.size) : ∀ x, lg.segs.getLast? = some x → x.recs ≠ [] := by
  intro x hx e
  rw [hs] at hx
  obtain rfl : s = x := by simpa using hx
  have h1 := h.full s (by rw [hs]; simp) e
  have := h.sz.1
  omega
theorem gAppend_ok (h : Ok lg) : Ok (gAppend lg st l).2.1 := by
  unfold gAppend
  by_cases h0 : gNo lg l = 0
  · rw [if_neg (by simpa using h0)]
    obtain ⟨hb, hn, hz⟩ := gNo_zero h0
    have hl := (isB_iff.1 hb).1.1
    have hf := frm_len 1 (lod lg.next l) hz
    change 6 ≤ (bfr lg.next l).length ∧ (bfr lg.next l).length ≤ 65551 at hf
    rcases room_split lg st with ⟨h1, h2⟩ | ⟨h1, h2, h3, h4⟩ | ⟨h1, h2, ⟨xs, s, h3, h5, h6, h7⟩, h4⟩ | ⟨h1, ⟨xs, s, h3, h5, h2⟩, h4⟩
    · rw [if_pos h1]
      simp only [h2]
      exact h
    · rw [if_neg (by simpa using h1)]
      simp only [h2, h4]
      split
      · exact h
      · exact h.putNew (fun s hs => by rw [h3] at hs; cases hs) hl hn (by omega)
    · rw [if_neg (by simpa using h1)]
      simp only [h2, h4]
      split
      · exact h.sureNext
      · exact h.sureNext.putNew (h.lastFull h3 h5) hl hn (by omega)
    · rw [if_neg (by simpa using h1)]
      simp only [h2, h4]
      split
      · exact h
      · have := h.sz.2
        have := h.putOld h3 hl hn (n := (bfr lg.next l).length) (by omega)
        simpa [segsPut, h3] using this
  · rw [if_pos h0]
    exact h
theorem gFlush_ok (h : Ok lg) : Ok (gFlush lg st).2.1 := by
  unfold gFlush
  split
  · exact h
  · split
    · exact h
    · split
      · exact h
      · exact h.sureNext
theorem dropS_cn (pre : ByteArray) (below : Nat) : ∀ (segs : List Sg) (st : Ab), ∃ k, (dropS pre below segs st).2.1 = segs.drop k ∧ ((dropS pre below segs st).2.1 = [] → segs = [])
  | [], st => ⟨0, rfl, fun _ => rfl⟩
  | [s], st => ⟨0, rfl, fun h => by simp [dropS] at h⟩
  | s :: t :: r, st => by
    unfold dropS
    split
    · split
      · exact ⟨0, rfl, fun h => by simp at h⟩
      · obtain ⟨k, h1, h2⟩ := dropS_cn pre below (t :: r) (aDel st (nam pre s.first)).2
        exact ⟨k + 1, by rw [h1]; rfl, fun h => by cases h2 h⟩
    · exact ⟨0, rfl, fun h => by simp at h⟩
theorem Cn.drop {n : Nat} : ∀ {segs : List Sg} (k : Nat), Cn segs n → Cn (segs.drop k) n
  | _, 0, h => h
  | [], _ + 1, _ => trivial
  | _ :: _, k + 1, h => Cn.drop k h.tail
theorem gDrop_ok (below : Nat) (h : Ok lg) : Ok (gDrop lg st below).2.1 := by
  obtain ⟨k, h1, h2⟩ := dropS_cn lg.pre below lg.segs st
  unfold gDrop
  refine ⟨?_, ?_, h.next, fun e => h.none (h2 e), h.sure, h.sz, h.pre, ?_, ?_⟩
  · simp only [h1]
    exact h.cn.drop k
  · simp only [h1]
    exact fun s hs => h.low s (List.mem_of_mem_drop hs)
  · simp only [h1]
    exact fun s hs => h.size s (List.mem_of_mem_drop hs)
  · simp only [h1]
    exact fun s hs => h.full s (List.mem_of_mem_drop hs)
end Go.Proofs.YteifkkceldlfnaaGreatDoor
namespace Go.Proofs.YteifkkceldlfnaaGreatDoor
open Go.RowKit Go.Shelf Go.Sort
open Go.Lib hiding intOf

/-- elements of one cell are put behind a row's: where they then lie -/
theorem row_append {W : World} {B : Nat} {e t : TypeId} {i : TypeInfo} {z : Value} {bytes : Nat} (ht : Tryz.prog.underlying t = some (.slice e)) (hi : Tryz.prog.info? e = some i) (hz : i.zero = some z) (hz1 : i.size = 1) (hz2 : i.bytes = bytes) (hzs : z.cells.size = 1)
    {v : Value} {n : Nat} {xs : List Value} (hown : W.ownsRow B e 1 v n xs) (ad : Addr) (m c : Nat) (news : List Value) (hl : news.length = m) (hnews : ∀ j u, news[j]? = some u → W.cell? (ad.add j) = some u) (h1 : ∀ u ∈ news, u.oneCell' = true)
    (h63 : n + m ≤ maxLen) (hb : (n + m) * bytes ≤ 140737488355328) (hB : B ≤ W.heap.size) (ty : TypeId) :
    ∃ v' w', (Builtin.append_ #[t, t] ty #[v, .slice (some ad) m c]).run Tryz.prog W = .ok v' w' ∧ w'.ownsRow B e 1 v' (n + m) (xs ++ news) ∧ W.grownBy w' v.ownBlock ∧ ∀ x, v'.ownBlock = some x → v.ownBlock = some x ∨ W.heap.size ≤ x := by
  obtain ⟨v', w', hr, h2, h3, h4⟩ := run_append_own (P := Tryz.prog) W B t ty e i z 1 bytes ht hi hz hz1 hz2 hzs (by decide) v n xs hown ad m c news (by omega) hnews h1 h63 hb hB
  refine ⟨v', w', hr, h2, h3, ?_⟩
  have hsm : n + m ≤ 9223372036854775807 := by simpa only [maxLen] using h63
  rcases hown.2 with ⟨rfl, rfl⟩ | ⟨g, cap, cur, rfl, hbg, hg, hnc, hcm, hcs, htake⟩
  · have hx0 : xs = [] := List.eq_nil_of_length_eq_zero (by have := hown.1; omega)
    subst hx0
    obtain ⟨v2, w2, hr2, h22, -, -⟩ := run_append_own (P := Tryz.prog) W W.heap.size t ty e i z 1 bytes ht hi hz hz1 hz2 hzs (by decide) (.slice none 0 0) 0 [] (World.ownsRow_nil _ _ _ _) ad m c news (by omega) hnews h1 h63 hb (Nat.le_refl _)
    rw [hr] at hr2
    injection hr2 with e1 e2
    subst e1; subst e2
    intro x hx
    exact .inr (row_obj h22 hx).1
  · by_cases hroom : n + m ≤ cap
    · have hr2 := run_append_room (P := Tryz.prog) W t ty e i ht hi g n cap cur hg ad m c news (by rw [hz1]; omega) hnews h1 hroom (by rw [hz1]; omega)
      rw [hr] at hr2
      injection hr2 with e1 e2
      subst e1
      intro x hx
      exact .inl hx
    · have holds : ∀ j u, xs[j]? = some u → W.cell? ((⟨g, 0, none⟩ : Addr).add j) = some u := hown.cells (g := g) rfl
      have hr2 := run_append_grow (P := Tryz.prog) W t ty e i z ht hi hz ⟨g, 0, none⟩ n cap xs (by rw [hz1]; simpa using hown.1) holds ad m c news (by rw [hz1]; omega) hnews (by omega) (by omega) (by rw [hz2]; exact growslice_fits (by omega) hb)
      rw [hr] at hr2
      injection hr2 with e1 e2
      subst e1
      intro x hx
      cases hx
      exact .inr (Nat.le_refl _)

/-- a segment, its block, its slice -/
structure Sv where
  sg : Sg
  g : Nat
  rv : Value
instance : Inhabited Sv := ⟨⟨default, 0, .slice none 0 0⟩⟩
def ptr (v : Sv) : Value := .pointer (some ⟨v.g, 0, none⟩)
def Sv.at (v : Sv) (x : Nat) : Prop := x = v.g ∨ v.rv.ownBlock = some x
structure Sw (w : World) (B : Nat) (pre : ByteArray) (v : Sv) : Prop where
  hd : w.heap[v.g]? = some (.cells #[.string (nam pre v.sg.first), .int .u64 (v.sg.first : Int), .int .i64 (v.sg.size : Int), v.rv] 113 (0, 0))
  row : w.ownsRow B 9 1 v.rv v.sg.recs.length (strCs v.sg.recs)
  low : B ≤ v.g
section
variable {w w' : World} {B : Nat} {pre : ByteArray} {v : Sv}
theorem Sw.c0 (h : Sw w B pre v) : w.cell? ⟨v.g, 0, none⟩ = some (.string (nam pre v.sg.first)) := by simp [World.cell?, h.hd]
theorem Sw.c1 (h : Sw w B pre v) : w.cell? ⟨v.g, 1, none⟩ = some (.int .u64 (v.sg.first : Int)) := by simp [World.cell?, h.hd]
theorem Sw.c2 (h : Sw w B pre v) : w.cell? ⟨v.g, 2, none⟩ = some (.int .i64 (v.sg.size : Int)) := by simp [World.cell?, h.hd]
theorem Sw.c3 (h : Sw w B pre v) : w.cell? ⟨v.g, 3, none⟩ = some v.rv := by simp [World.cell?, h.hd]
theorem Sw.fro (h : Sw w B pre v) (j : Nat) : w.frozen? ⟨v.g, j, none⟩ = false := by simp [World.frozen?, h.hd]
theorem Sw.lt (h : Sw w B pre v) : v.g < w.heap.size := (Array.getElem?_eq_some_iff.1 h.hd).1
theorem Sw.ch (h : Sw w B pre v) {X : Nat → Prop} (hc : Ch X w w') (hX : ∀ x, v.at x → ¬ X x) : Sw w' B pre v :=
  ⟨hc.obj h.hd (hX _ (.inl rfl)), hc.row h.row (fun k hk => hX k (.inr hk)), h.low⟩
theorem Sw.at_lt (h : Sw w B pre v) {x : Nat} (hx : v.at x) : x < w.heap.size ∧ B ≤ x := by
  rcases hx with rfl | hx
  · exact ⟨h.lt, h.low⟩
  · exact ⟨row_lt h.row hx, (row_obj h.row hx).1⟩
theorem Sw.kind (h : Sw w B pre v) {x : Nat} (hx : v.at x) : ∃ cur t, w.heap[x]? = some (.cells cur t (0, 0)) ∧ (t = 113 ∨ t = 9) := by
  rcases hx with rfl | hx
  · exact ⟨_, _, h.hd, .inl rfl⟩
  · obtain ⟨_, cur, hc⟩ := row_obj h.row hx
    exact ⟨_, _, hc, .inr rfl⟩
theorem Sw.below (h : Sw w B pre v) (hb : Below w.heap.size w w') : Sw w' B pre v := h.ch (X := fun _ => False) (Ch.of_below hb) (fun _ _ => id)
end
def SApart (a b : Sv) : Prop := a.g ≠ b.g ∧ ∀ x, a.rv.ownBlock = some x → b.rv.ownBlock ≠ some x
/-- the log in block lb, of the disk in block d -/
structure Lw (w : World) (B lb d : Nat) (lg : Lg) (vs : List Sv) (sl : Value) : Prop where
  hd : w.heap[lb]? = some (.cells #[.pointer (some ⟨d, 0, none⟩), .string lg.pre, .int .i64 (lg.sz : Int), sl, .int .u64 (lg.next : Int), .int .u64 (lg.sure : Int)] 82 (0, 0))
  row : w.ownsRow B 83 1 sl vs.length (vs.map ptr)
  sw : ∀ v ∈ vs, Sw w B lg.pre v
  apart : vs.Pairwise SApart
  segs : vs.map Sv.sg = lg.segs
  low : B ≤ lb
def lfoot (lb : Nat) (sl : Value) (vs : List Sv) (x : Nat) : Prop := x = lb ∨ sl.ownBlock = some x ∨ ∃ v ∈ vs, v.at x

variable {w w' w1 w2 : World} {B lb d : Nat} {lg lg' : Lg} {vs vs' : List Sv} {sl sl' : Value} {X Y : Nat → Prop} {st st' : Ab}
theorem Lw.c0 (h : Lw w B lb d lg vs sl) : w.cell? ⟨lb, 0, none⟩ = some (.pointer (some ⟨d, 0, none⟩)) := by simp [World.cell?, h.hd]
theorem Lw.c1 (h : Lw w B lb d lg vs sl) : w.cell? ⟨lb, 1, none⟩ = some (.string lg.pre) := by simp [World.cell?, h.hd]
theorem Lw.c2 (h : Lw w B lb d lg vs sl) : w.cell? ⟨lb, 2, none⟩ = some (.int .i64 (lg.sz : Int)) := by simp [World.cell?, h.hd]
theorem Lw.c3 (h : Lw w B lb d lg vs sl) : w.cell? ⟨lb, 3, none⟩ = some sl := by simp [World.cell?, h.hd]
theorem Lw.c4 (h : Lw w B lb d lg vs sl) : w.cell? ⟨lb, 4, none⟩ = some (.int .u64 (lg.next : Int)) := by simp [World.cell?, h.hd]
theorem Lw.c5 (h : Lw w B lb d lg vs sl) : w.cell? ⟨lb, 5, none⟩ = some (.int .u64 (lg.sure : Int)) := by simp [World.cell?, h.hd]
theorem Lw.fro (h : Lw w B lb d lg vs sl) (j : Nat) : w.frozen? ⟨lb, j, none⟩ = false := by simp [World.frozen?, h.hd]
theorem Lw.lt (h : Lw w B lb d lg vs sl) : lb < w.heap.size := (Array.getElem?_eq_some_iff.1 h.hd).1
theorem Lw.len (h : Lw w B lb d lg vs sl) : vs.length = lg.segs.length := by rw [← h.segs]; simp
theorem Lw.foot_lt (h : Lw w B lb d lg vs sl) {x : Nat} (hx : lfoot lb sl vs x) : x < w.heap.size ∧ B ≤ x := by
  rcases hx with rfl | hx | ⟨v, hv, hx⟩
  · exact ⟨h.lt, h.low⟩
  · exact ⟨row_lt h.row hx, (row_obj h.row hx).1⟩
  · exact (h.sw v hv).at_lt hx
theorem Lw.ch (h : Lw w B lb d lg vs sl) (hc : Ch X w w') (hX : ∀ x, lfoot lb sl vs x → ¬ X x) : Lw w' B lb d lg vs sl where
  hd := hc.obj h.hd (hX _ (.inl rfl))
  row := hc.row h.row (fun k hk => hX k (.inr (.inl hk)))
  sw v hv := (h.sw v hv).ch hc (fun x hx => hX x (.inr (.inr ⟨v, hv, hx⟩)))
  apart := h.apart
  segs := h.segs
  low := h.low
theorem Lw.below (h : Lw w B lb d lg vs sl) (hb : Below w.heap.size w w') : Lw w' B lb d lg vs sl := h.ch (X := fun _ => False) (Ch.of_below hb) (fun _ _ => id)
theorem Lw.kind (h : Lw w B lb d lg vs sl) {x : Nat} (hx : lfoot lb sl vs x) : ∃ cur t, w.heap[x]? = some (.cells cur t (0, 0)) ∧ (t = 82 ∨ t = 83 ∨ t = 113 ∨ t = 9) := by
  rcases hx with rfl | hx | ⟨v, hv, hx⟩
  · exact ⟨_, _, h.hd, .inl rfl⟩
  · obtain ⟨_, cur, hc⟩ := row_obj h.row hx
    exact ⟨_, _, hc, .inr (.inl rfl)⟩
  · obtain ⟨cur, t, h1, h2⟩ := (h.sw v hv).kind hx
    exact ⟨cur, t, h1, .inr (.inr h2)⟩
/-- no block of the log is the disk's -/
theorem Lw.not_ld (h : Lw w B lb d lg vs sl) {es : List Le} {p : Int} {off : Bool} {mo : Option Nat} (k : Ld w B d es p off mo) {x : Nat} (hx : lfoot lb sl vs x) : ¬ foot d mo es x := by
  intro hf
  obtain ⟨cur, t, h1, h2⟩ := h.kind hx
  rcases k.kind hf with ⟨a, c, h3⟩ | ⟨cur', t', h3, h4⟩
  · rw [h1] at h3; cases h3
  · rw [h1] at h3
    injection h3 with h3
    injection h3 with _ h3
    subst h3
    rcases h2 with rfl | rfl | rfl | rfl <;> rcases h4 with h4 | h4 | h4 <;> cases h4
theorem Lw.v_lb (h : Lw w B lb d lg vs sl) {v : Sv} (hv : v ∈ vs) {x : Nat} (hx : v.at x) : x ≠ lb ∧ sl.ownBlock ≠ some x := by
  obtain ⟨cur, t, h1, h2⟩ := (h.sw v hv).kind hx
  refine ⟨?_, fun e => ?_⟩
  · rintro rfl
    rw [h.hd] at h1
    injection h1 with h1
    injection h1 with _ h1
    subst h1
    rcases h2 with h2 | h2 <;> cases h2
  · obtain ⟨_, cur', hc⟩ := row_obj h.row e
    rw [hc] at h1
    injection h1 with h1
    injection h1 with _ h1
    subst h1
    rcases h2 with h2 | h2 <;> cases h2
theorem Lw.sl_lb (h : Lw w B lb d lg vs sl) : sl.ownBlock ≠ some lb := by
  intro e
  obtain ⟨_, cur', hc⟩ := row_obj h.row e
  rw [h.hd] at hc
  injection hc with hc
  injection hc with _ hc
  cases hc
/-- the log's own cells turn, its segments stay -/
theorem Lw.own (h : Lw w B lb d lg vs sl) (hc : Ch (fun x => x = lb) w w') (hp : lg'.pre = lg.pre) (hs : lg'.segs = lg.segs)
    (hd : w'.heap[lb]? = some (.cells #[.pointer (some ⟨d, 0, none⟩), .string lg'.pre, .int .i64 (lg'.sz : Int), sl, .int .u64 (lg'.next : Int), .int .u64 (lg'.sure : Int)] 82 (0, 0))) : Lw w' B lb d lg' vs sl where
  hd := hd
  row := hc.row h.row (fun k hk e => h.sl_lb (by rw [← e]; exact hk))
  sw v hv := by
    rw [hp]
    exact (h.sw v hv).ch hc (fun x hx e => (h.v_lb hv hx).1 e)
  apart := h.apart
  segs := h.segs.trans hs.symm
  low := h.low
/-- the last segment turns in its place -/
theorem Lw.turn {xs : List Sv} {v v' : Sv} (h : Lw w B lb d lg (xs ++ [v]) sl) (hc : Ch (fun x => v.at x) w w') (hs : Sw w' B lg.pre v') (hg : v'.g = v.g) (hb : ∀ x, v'.rv.ownBlock = some x → v.rv.ownBlock = some x ∨ w.heap.size ≤ x) :
    Lw w' B lb d { lg with segs := (xs ++ [v']).map Sv.sg } (xs ++ [v']) sl where
  hd := hc.obj h.hd (fun hx => (h.v_lb (by simp) hx).1 rfl)
  row := by
    have : (xs ++ [v']).map ptr = (xs ++ [v]).map ptr := by simp [ptr, hg]
    rw [this, show (xs ++ [v']).length = (xs ++ [v]).length by simp]
    exact hc.row h.row (fun k hk hx => (h.v_lb (by simp) hx).2 hk)
  sw x hx := by
    rcases List.mem_append.1 hx with hx | hx
    · have ha := (List.pairwise_append.1 h.apart).2.2 x hx v (by simp)
      refine (h.sw x (List.mem_append_left _ hx)).ch hc (fun y hy hv => ?_)
      have h1 := h.sw x (List.mem_append_left _ hx)
      have h2 := h.sw v (by simp)
      rcases hy with rfl | hy <;> rcases hv with hv | hv
      · exact ha.1 hv
      · obtain ⟨_, cur, hcc⟩ := row_obj h2.row hv
        rw [h1.hd] at hcc; injection hcc with hcc; injection hcc with _ hcc; cases hcc
      · obtain ⟨_, cur, hcc⟩ := row_obj h1.row hy
        rw [hv, h2.hd] at hcc; injection hcc with hcc; injection hcc with _ hcc; cases hcc
      · exact ha.2 y hy hv
    · rcases List.mem_singleton.1 hx with rfl
      exact hs
  apart := by
    obtain ⟨p1, p2, p3⟩ := List.pairwise_append.1 h.apart
    refine List.pairwise_append.2 ⟨p1, by simp, fun a ha b hb' => ?_⟩
    rcases List.mem_singleton.1 hb' with rfl
    have := p3 a ha v (by simp)
    refine ⟨by rw [hg]; exact this.1, fun x hx hv => ?_⟩
    rcases hb x hv with h1 | h1
    · exact this.2 x hx h1
    · have := row_lt (h.sw a (List.mem_append_left _ ha)).row hx
      omega
  segs := rfl
  low := h.low
/-- one more segment, in blocks that the log does not have -/
theorem Lw.snoc {v : Sv} (h : Lw w B lb d lg vs sl) (hs : Sw w B lg.pre v) (hv : ∀ x, v.at x → ¬ lfoot lb sl vs x) (hg : w.grownBy w1 sl.ownBlock) (hr : w1.ownsRow B 83 1 sl' (vs.length + 1) (vs.map ptr ++ [ptr v])) (hb : ∀ x, sl'.ownBlock = some x → sl.ownBlock = some x ∨ w.heap.size ≤ x) :
    Lw (w1.setCell ⟨lb, 3, none⟩ sl') B lb d { lg with segs := (vs ++ [v]).map Sv.sg } (vs ++ [v]) sl' ∧ Ch (lfoot lb sl vs) w (w1.setCell ⟨lb, 3, none⟩ sl') := by
  have C1 : Ch (fun x => sl.ownBlock = some x) w w1 := Ch.of_grown hg (fun x e _ => e)
  have C2 : Ch (fun x => x = lb) w1 (w1.setCell ⟨lb, 3, none⟩ sl') := (Ch.refl _ w1).setCell _ _ (fun _ => rfl)
  have hd1 := C1.obj h.hd (fun e => h.sl_lb e)
  have hk : ∀ x, sl'.ownBlock = some x → x ≠ lb := by
    rintro x hx rfl
    rcases hb _ hx with h1 | h1
    · exact h.sl_lb h1
    · have := h.lt; omega
  have hvl : v.g ≠ lb ∧ ∀ x, v.rv.ownBlock = some x → x ≠ lb := ⟨fun e => hv _ (.inl rfl) (.inl e), fun x hx e => hv x (.inr hx) (.inl e)⟩
  have all : ∀ u, u ∈ vs ∨ u = v → Sw (w1.setCell ⟨lb, 3, none⟩ sl') B lg.pre u := by
    intro u hu
    have h1 : Sw w B lg.pre u ∧ ∀ x, u.at x → x ≠ lb ∧ sl.ownBlock ≠ some x := by
      rcases hu with hu | rfl
      · exact ⟨h.sw u hu, fun x hx => h.v_lb hu hx⟩
      · exact ⟨hs, fun x hx => ⟨fun e => hv x hx (.inl e), fun e => hv x hx (.inr (.inl e))⟩⟩
    exact (h1.1.ch C1 (fun x hx => (h1.2 x hx).2)).ch C2 (fun x hx => (h1.2 x hx).1)
  refine ⟨⟨heap_setCell_same w1 lb 3 _ _ _ hd1, ?_, ?_, ?_, rfl, h.low⟩, ?_⟩
  · rw [List.length_append, List.map_append]
    exact C2.row hr (fun k hk' => hk k hk')
  · intro u hu
    rcases List.mem_append.1 hu with hu | hu
    · exact all u (.inl hu)
    · exact all u (.inr (List.mem_singleton.1 hu))
  · refine List.pairwise_append.2 ⟨h.apart, by simp, fun a ha b hb' => ?_⟩
    rcases List.mem_singleton.1 hb' with rfl
    exact ⟨fun e => hv _ (.inl rfl) (.inr (.inr ⟨a, ha, .inl e.symm⟩)), fun x hx hx' => hv x (.inr hx') (.inr (.inr ⟨a, ha, .inr hx⟩))⟩
  · exact (C1.mono (fun x _ e => .inr (.inl e))).trans (C2.mono (fun x _ e => .inl e))

/-- a log and its disk, in the blocks of X -/
def Ls (X : Nat → Prop) (w : World) (B lb d : Nat) (lg : Lg) (st : Ab) : Prop :=
  ∃ es mo vs sl, Ld w B d es st.2.1 st.2.2 mo ∧ fil es = st.1 ∧ Lw w B lb d lg vs sl ∧ Ok lg ∧ (∀ x, foot d mo es x → X x) ∧ ∀ x, lfoot lb sl vs x → X x
/-- what a call of a log leaves -/
def Lft (X : Nat → Prop) (w : World) (B lb d : Nat) (lg : Lg) (st : Ab) (w' : World) : Prop := Ls (fun x => X x ∨ w.heap.size ≤ x) w' B lb d lg st ∧ Ch X w w'
theorem Ls.ch (h : Ls X w B lb d lg st) (hc : Ch Y w w') (hY : ∀ x, X x → ¬ Y x) : Ls X w' B lb d lg st := by
  obtain ⟨es, mo, vs, sl, L, e, W, ok, h1, h2⟩ := h
  exact ⟨es, mo, vs, sl, L.ch hc (fun x hx => hY x (h1 x hx)), e, W.ch hc (fun x hx => hY x (h2 x hx)), ok, h1, h2⟩
theorem Ls.below (h : Ls X w B lb d lg st) (hb : Below w.heap.size w w') : Ls X w' B lb d lg st := h.ch (Y := fun _ => False) (Ch.of_below hb) (fun _ _ => id)
theorem Ls.mono (h : Ls X w B lb d lg st) (hXY : ∀ x, X x → Y x) : Ls Y w B lb d lg st := by
  obtain ⟨es, mo, vs, sl, L, e, W, ok, h1, h2⟩ := h
  exact ⟨es, mo, vs, sl, L, e, W, ok, fun x hx => hXY x (h1 x hx), fun x hx => hXY x (h2 x hx)⟩
theorem Ls.ok (h : Ls X w B lb d lg st) : Ok lg := by
  obtain ⟨es, mo, vs, sl, L, e, W, ok, h1, h2⟩ := h
  exact ok
theorem Ls.base (h : Ls X w B lb d lg st) : B ≤ w.heap.size ∧ B ≤ lb ∧ lb < w.heap.size := by
  obtain ⟨es, mo, vs, sl, L, e, W, ok, h1, h2⟩ := h
  have := W.lt
  have := W.low
  exact ⟨by omega, by omega, by omega⟩
/-- the disk was asked -/
theorem Lw.did {es : List Le} {mo : Option Nat} (h : Lw w B lb d lg vs sl) (L : Ld w B d es st.2.1 st.2.2 mo) (D : Did w B d es mo w' st') : Lw w' B lb d lg vs sl := by
  obtain ⟨es', mo', L', e, C, hn⟩ := D
  exact h.ch C (fun x hx => h.not_ld L hx)
end Go.Proofs.YteifkkceldlfnaaGreatDoor
namespace Go.Proofs.YteifkkceldlfnaaGreatDoor
open Go.RowKit Go.Shelf Go.Sort
open Go.Lib hiding intOf

theorem nam_eq (pre : ByteArray) (n : Nat) : ((pre ++ S [45]) ++ S (List.replicate (10 - (Lib.decDigits n).length) 48)) ++ S (Lib.decDigits n) = nam pre n := by
  apply key_ext
  unfold nam dgs
  simp [S_list, ByteArray.data_append]
set_option maxHeartbeats 1000000 in
theorem nameOf_any (pre : ByteArray) (n : Nat) (hn : n < 18446744073709551616) (hp : pre.size ≤ 8) (w : World) (htab : Lib.TabIs Tryz.prog w "internal/strconv.uint64pow10" .u64 Lib.pow10Tab) :
    Calls Tryz.prog 92 #[.string pre, .int .u64 (n : Int)] w fun e w' => e = .returned (.string (nam pre n)) ∧ Below w.heap.size w w' := by
  have hc := fmtU n hn w htab
  have hl : (Lib.decDigits n).length ≤ 20 := by rw [Lib.decDigits_length]; exact Lib.nDigits_le20 n hn
  have hsz := S_size (Lib.decDigits n)
  have hr := fun W => rep_any (S [48]) (10 - (Lib.decDigits n).length) W (by omega) (by rw [S_size]; simp; omega)
  simp only [S_list, repeat_one] at hr
  have hmax : max (0 : Int) (10 - ((Lib.decDigits n).length : Int)) = ((10 - (Lib.decDigits n).length : Nat) : Int) := by omega
  have HE := Lib.hid (nam_eq pre n)
  generalize hd : Lib.decDigits n = dd at *
  clear hd htab
  go_enter Tryz.func92, Tryz.ntmps92
  go_wp2_with (first
    | (go_at_call 119; refine hc.mono ?_; rintro e w1 ⟨rfl, hb1⟩; have HB1 : Hid _ := hb1; clear hb1)
    | (go_at_call 120; refine (hr _).mono ?_; rintro e w2 ⟨rfl, hb2⟩; have HB2 : Hid _ := hb2; clear hb2))
  go_ret
  exact ⟨by rw [← HE.out]; rfl, HB1.out.trans (HB2.out.mono HB1.out.size)⟩

/-! ### prefixes -/
def oth (r : Nat) : Bool := decide (r < 97) || decide (122 < r)
def isP (s : ByteArray) : Bool := decide (1 ≤ s.size ∧ s.size ≤ 8) && decide (Lib.idxFunc oth true s < 0)
theorem isPrefix1 (w : World) : PredAt Tryz.prog 66 #[] encR oth w := by
  intro W r _
  unfold FnGives encR oth
  by_cases h1 : r < 97
  · have h1' : (r : Int) < 97 := by omega
    go_enter Tryz.func66, Tryz.ntmps66
    go_wp2
    go_ret
    exact ⟨by simp [h1], 0, rfl⟩
  · have h1' : ¬ (r : Int) < 97 := by omega
    by_cases h2 : 122 < r
    · have h2' : (122 : Int) < (r : Int) := by omega
      go_enter Tryz.func66, Tryz.ntmps66
      go_wp2
      go_ret
      exact ⟨by simp, 0, rfl⟩
    · have h2' : ¬ (122 : Int) < (r : Int) := by omega
      go_enter Tryz.func66, Tryz.ntmps66
      go_wp2
      go_ret
      exact ⟨by simp, 0, rfl⟩
theorem idx_any (s : ByteArray) (w : World) : Calls Tryz.prog 67 #[.string s, .func (.func 66) #[] #[]] w fun e w' => e = .returned (.int .i64 (Lib.idxFunc oth true s)) ∧ Below w.heap.size w w' :=
  Any.strings_IndexFunc idxLay 66 #[] (enters_of Tryz.func66 (by kernel_rfl) rfl) oth s w (isPrefix1 w)
set_option maxHeartbeats 1000000 in
theorem isPrefix_any (s : ByteArray) (w : World) : Calls Tryz.prog 28 #[.string s] w fun e w' => e = .returned (.bool (isP s)) ∧ Below w.heap.size w w' := by
  have hc := idx_any s w
  unfold isP
  by_cases h0 : s.size = 0
  · obtain rfl : s = ⟨#[]⟩ := by
      apply ByteArray.ext
      exact Array.eq_empty_of_size_eq_zero h0
    go_enter Tryz.func28, Tryz.ntmps28
    go_wp2
    go_ret
    exact ⟨rfl, Below.refl _ _⟩
  · have hne : s.toList.isEmpty = false := by
      rw [Lib.toList_data]
      cases e : s.data.toList with
      | nil => exact absurd (by rw [show s.size = s.data.toList.length from rfl, e]; rfl) h0
      | cons _ _ => rfl
    generalize Lib.idxFunc oth true s = ix at *
    by_cases h8 : s.size ≤ 8
    · have h8' : (s.size : Int) ≤ 8 := by omega
      go_enter Tryz.func28, Tryz.ntmps28
      go_wp2_with (go_at_call 67; refine hc.mono ?_; rintro e w1 ⟨rfl, hb1⟩; have HB1 : Hid _ := hb1; clear hb1)
      go_ret
      refine ⟨?_, HB1.out⟩
      rw [show decide (1 ≤ s.size ∧ s.size ≤ 8) = true by simp; omega]
      simp
    · have h8' : ¬ (s.size : Int) ≤ 8 := by omega
      go_enter Tryz.func28, Tryz.ntmps28
      go_wp2
      go_ret
      refine ⟨?_, Below.refl _ _⟩
      simp

/-! ### batches -/
def encS (r : List UInt8) : Value := .string (S r)
theorem isBatch1 (w : World) : PredAt Tryz.prog 87 #[] encS (fun r => decide (4096 < r.length)) w := by
  intro W r _
  unfold FnGives encS
  have hs := S_size r
  go_enter Tryz.func87, Tryz.ntmps87
  go_wp2
  go_ret
  refine ⟨?_, 0, rfl⟩
  simp
  omega
theorem con_any {v : Value} {l : List (List UInt8)} {w : World} (h : Strs w v l) (hl : l.length ≤ 9223372036854775807) : Calls Tryz.prog 88 #[v, .func (.func 87) #[] #[]] w fun e w' => e = .returned (.bool (l.any fun r => decide (4096 < r.length))) ∧ ∃ q, w' = w.drewN q := by
  obtain ⟨a, c, rfl, h⟩ := h
  rcases h with rfl | ⟨b, off, rfl, hb, hc⟩
  · exact (AnyE.slices_ContainsFunc_empty conLay a c _ w).mono fun _ _ x => ⟨x.1, 0, by rw [x.2]; rfl⟩
  · have := AnyE.slices_ContainsFunc conLay encS (fun r => decide (4096 < r.length)) 87 #[] (enters_of Tryz.func87 (by kernel_rfl) rfl) b off l.length c l w (isBatch1 w) (Nat.le_refl _) hl (fun j hj => by
      rw [hc j hj]
      unfold encS
      simp [List.getD, hj])
    rw [List.take_length] at this
    exact this
set_option maxHeartbeats 1000000 in
theorem isBatch_any {v : Value} {l : List (List UInt8)} {w : World} (h : Strs w v l) (hl : l.length ≤ 9223372036854775807) : Calls Tryz.prog 58 #[v] w fun e w' => e = .returned (.bool (isB l)) ∧ ∃ q, w' = w.drewN q := by
  have hc := con_any h hl
  obtain ⟨a, c, rfl, h⟩ := h
  unfold isB
  have hany : (l.any fun r => decide (4096 < r.length)) = !(l.all fun r => decide (r.length ≤ 4096)) := by
    rw [List.all_eq_not_any_not, Bool.not_not]
    congr
    funext r
    by_cases h : 4096 < r.length <;> simp [h]
    omega
  rw [hany] at hc
  generalize (l.all fun r => decide (r.length ≤ 4096)) = al at *
  clear h hany
  by_cases h0 : l.length = 0
  · have h0' : ¬ (0 : Int) < (l.length : Int) := by omega
    go_enter Tryz.func58, Tryz.ntmps58
    go_wp2
    go_ret
    exact ⟨rfl, 0, rfl⟩
  · have h0' : (0 : Int) < (l.length : Int) := by omega
    by_cases h2 : l.length ≤ 256
    · have h2' : (l.length : Int) ≤ 256 := by omega
      go_enter Tryz.func58, Tryz.ntmps58
      go_wp2_with (go_at_call 88; refine hc.mono ?_; rintro e w1 ⟨rfl, q, rfl⟩)
      go_ret
      refine ⟨?_, q, rfl⟩
      rw [show decide (1 ≤ l.length ∧ l.length ≤ 256) = true by simp; omega]
      simp
    · have h2' : ¬ (l.length : Int) ≤ 256 := by omega
      go_enter Tryz.func58, Tryz.ntmps58
      go_wp2
      go_ret
      refine ⟨?_, 0, rfl⟩
      simp
/-- how long a batch's load may be -/
theorem cat_le : ∀ (l : List (List UInt8)), (∀ r ∈ l, r.length ≤ 4096) → (cat l).length ≤ l.length * 4106
  | [], _ => by simp [cat]
  | r :: t, h => by
    have h1 := cat_le t (fun x hx => h x (List.mem_cons_of_mem _ hx))
    have h2 := h r (List.mem_cons_self ..)
    have h3 := uv_len r.length (by omega)
    rw [cat_cons, List.length_append, List.length_cons]
    unfold txt
    rw [List.length_append]
    omega
theorem lod_le {n : Nat} {l : List (List UInt8)} (hn : n < 18446744073709551616) (h : isB l = true) : (lod n l).length ≤ 1051200 ∧ (lst l).length ≤ 1051200 := by
  obtain ⟨⟨h1, h2⟩, h3⟩ := isB_iff.1 h
  have h4 := cat_le l h3
  have h5 := uv_len n hn
  have h6 := uv_len l.length (by omega)
  unfold lod lst
  simp only [List.length_append]
  omega
set_option maxHeartbeats 1000000 in
theorem putBatch_any {v : Value} {n : Nat} {l : List (List UInt8)} {w : World} (hn : n < 18446744073709551616) (h : Strs w v l) (hb : isB l = true) : Calls Tryz.prog 59 #[.int .u64 (n : Int), v] w fun e w' =>
    e = .returned (.tuple (if 65536 < (lod n l).length then #[.string ⟨#[]⟩, .int .i64 13] else #[.string (S (bfr n l)), .int .i64 0])) ∧ Below w.heap.size w w' := by
  obtain ⟨z1, z2⟩ := lod_le hn hb
  have cU := Uint_any n hn w
  have cL := fun (W : World) (hW : Below w.heap.size w W) => List_any (h.below hW (Nat.le_refl _)) (by omega)
  have hP : ∀ W, Calls Tryz.prog 89 #[.int .u8 1, .string (S (lod n l))] W fun e w' => e = .returned (.tuple (if 65536 < (lod n l).length then #[.string ⟨#[]⟩, .int .i64 13] else #[.string (S (bfr n l)), .int .i64 0])) ∧ Below W.heap.size W w' := by
    intro W
    by_cases hl : 65536 < (lod n l).length
    · rw [if_pos hl]
      exact (Put_long 1 _ hl (by omega) W).mono fun _ _ x => ⟨x.1, by rw [x.2]; exact Below.refl _ _⟩
    · rw [if_neg hl]
      exact Put_any 1 _ (by omega) W
  have HE : Hid (S (Lib.uvarint n) ++ S (lst l) = S (lod n l)) := by
    apply key_ext
    unfold lod
    simp [S_list, ByteArray.data_append]
  have hadd : ¬ 9223372036854775807 < (S (Lib.uvarint n)).size + (S (lst l)).size := by
    have := uv_len n hn
    rw [S_size, S_size]
    omega
  obtain ⟨x, y, hxy⟩ : ∃ x y : Value, (if 65536 < (lod n l).length then #[Value.string ⟨#[]⟩, .int .i64 13] else #[.string (S (bfr n l)), .int .i64 0]) = #[x, y] := by
    split
    · exact ⟨_, _, rfl⟩
    · exact ⟨_, _, rfl⟩
  rw [hxy] at hP ⊢
  clear hxy
  obtain ⟨a, c, rfl, -⟩ := h
  go_enter Tryz.func59, Tryz.ntmps59
  go_wp2_with (first
    | (go_at_call 90; refine cU.mono ?_; rintro e w1 ⟨rfl, hb1⟩; have cL1 := cL w1 hb1; have HB1 : Hid _ := hb1; clear hb1 cL)
    | (go_at_call 91; refine cL1.mono ?_; rintro e w2 ⟨rfl, hb2⟩; have HB2 : Hid _ := hb2; clear hb2 cL1)
    | (go_at_call 89; rw [HE.out]; refine (hP _).mono ?_; rintro e w3 ⟨rfl, hb3⟩; have HB3 : Hid _ := hb3; clear hb3))
  go_ret2
  exact ⟨rfl, HB1.out.trans ((HB2.out.mono HB1.out.size).trans (HB3.out.mono (Nat.le_trans HB1.out.size HB2.out.size)))⟩
end Go.Proofs.YteifkkceldlfnaaGreatDoor
namespace Go.Proofs.YteifkkceldlfnaaGreatDoor
open Go.RowKit Go.Shelf Go.Sort
open Go.Lib hiding intOf
variable {w w' w1 : World} {B lb d : Nat} {lg lg' : Lg} {vs vs' : List Sv} {sl sl' : Value} {X Y : Nat → Prop} {st st' : Ab} {pre : ByteArray} {v : Sv}

theorem Sw.drewN (h : Sw w B pre v) (q : Nat) : Sw (w.drewN q) B pre v := h.ch (X := fun _ => False) (Ch.of_below (below_drewN' (Below.refl _ w) q)) (fun _ _ => id)
theorem Lw.drewN (h : Lw w B lb d lg vs sl) (q : Nat) : Lw (w.drewN q) B lb d lg vs sl := h.below (below_drewN' (Below.refl _ w) q)
set_option maxHeartbeats 1000000 in
theorem next_any (h : Sw w B pre v) (hn : v.sg.next ≤ 9223372036854775807) : Calls Tryz.prog 34 #[.pointer (some ⟨v.g, 0, none⟩)] w fun e w' => e = .returned (.int .u64 (v.sg.next : Int)) ∧ ∃ q, w' = w.drewN q := by
  have c1 := h.c1
  have c3 := h.c3
  obtain ⟨ra, rc, hra, -⟩ := row_slice h.row
  rw [hra] at c3
  unfold Sg.next at hn ⊢
  clear h hra
  generalize v.sg.first = f at *
  generalize v.sg.recs.length = n at *
  have h1 : IntKind.u64.wrap (n : Int) = (n : Int) := by rw [IntKind.wrap_u64]; omega
  have h2 : IntKind.u64.wrap ((f : Int) + (n : Int)) = ((f + n : Nat) : Int) := by rw [IntKind.wrap_u64]; omega
  go_enter Tryz.func34, Tryz.ntmps34
  go_wp2_with fail
  go_quiet (fail)
  go_wp2
  go_ret
  refine ⟨?_, _, rfl⟩
  simp
set_option maxHeartbeats 1000000 in
theorem last_none (h : Lw w B lb d lg [] sl) : Calls Tryz.prog 32 #[.pointer (some ⟨lb, 0, none⟩)] w fun e w' => e = .returned (.pointer none) ∧ ∃ q, w' = w.drewN q := by
  have c3 := h.c3
  obtain ⟨sa, sc, rfl, -⟩ := row_slice h.row
  clear h
  go_enter Tryz.func32, Tryz.ntmps32
  go_wp2
  go_ret
  exact ⟨rfl, 0, rfl⟩
theorem Lw.slice {xs : List Sv} (h : Lw w B lb d lg (xs ++ [v]) sl) : ∃ g c, sl = .slice (some ⟨g, 0, none⟩) (xs.length + 1) c ∧ w.cell? ⟨g, xs.length, none⟩ = some (.pointer (some ⟨v.g, 0, none⟩)) := by
  rcases h.row.2 with ⟨_, h0⟩ | ⟨g, cap, cur, rfl, _⟩
  · simp at h0
  · refine ⟨g, cap, by simp, ?_⟩
    have h1 := h.row
    have := row_cell (j := xs.length) (v := ptr v) (by simpa using h1) (by simp)
    exact this
set_option maxHeartbeats 1000000 in
theorem last_some {xs : List Sv} (h : Lw w B lb d lg (xs ++ [v]) sl) (hn : xs.length < 4611686018427387904) : Calls Tryz.prog 32 #[.pointer (some ⟨lb, 0, none⟩)] w fun e w' => e = .returned (.pointer (some ⟨v.g, 0, none⟩)) ∧ ∃ q, w' = w.drewN q := by
  have c3 := h.c3
  obtain ⟨g, sc, rfl, cg⟩ := h.slice
  clear h
  generalize xs.length = n at *
  have h0 : ¬ ((n + 1 : Nat) : Int) = 0 := by omega
  have h1 : ((n + 1 : Nat) : Int) - 1 = (n : Int) := by omega
  have h2 : (n : Int) < ((n + 1 : Nat) : Int) := by omega
  have h3 : (0 : Int) ≤ (n : Int) := by omega
  go_enter Tryz.func32, Tryz.ntmps32
  go_wp2
  go_quiet (fail)
  go_wp2
  go_ret
  exact ⟨rfl, _, rfl⟩

theorem Cn.count : ∀ {segs : List Sg} {n : Nat}, Cn segs n → segs.length ≤ (recsOf segs).length + 1
  | [], _, _ => by simp
  | [s], _, _ => by simp
  | s :: t :: r, n, h => by
    have h1 := Cn.count h.2.2
    have h2 : 0 < s.recs.length := List.length_pos_iff.2 h.2.1
    simp only [recsOf, List.flatMap_cons, List.length_append, List.length_cons] at h1 ⊢
    omega
theorem Ok.count (h : Ok lg) : lg.segs.length ≤ 1099511627778 := by
  have h1 := h.cn.count
  have h2 := h.recs
  have h3 := h.next.2
  omega
/-- the disk was asked behind some draws -/
theorem Did.drawn {es : List Le} {mo : Option Nat} {q : Nat} (D : Did (w.drewN q) B d es mo w' st') : Did w B d es mo w' st' := by
  obtain ⟨es', mo', L', e, C, hn⟩ := D
  exact ⟨es', mo', L', e, (Ch.of_below (below_drewN' (Below.refl _ w) q)).trans C, hn⟩
/-- what is left of a log whose disk was asked -/
theorem Ls.put {es : List Le} {mo : Option Nat} (L : Ld w' B d es st.2.1 st.2.2 mo) (e : fil es = st.1) (W : Lw w' B lb d lg vs sl) (ok : Ok lg) (C : Ch X w w') (h1 : ∀ x, foot d mo es x → X x ∨ w.heap.size ≤ x) (h2 : ∀ x, lfoot lb sl vs x → X x ∨ w.heap.size ≤ x) : Lft X w B lb d lg st w' :=
  ⟨⟨es, mo, vs, sl, L, e, W, ok, h1, h2⟩, C⟩
/-- six cells -/
theorem six4 {w : World} {b : Nat} {x0 x1 x2 x3 x4 x5 : Value} {t : TypeId} (h : w.heap[b]? = some (.cells #[x0, x1, x2, x3, x4, x5] t (0, 0))) (v : Value) : (w.setCell ⟨b, 4, none⟩ v).heap[b]? = some (.cells #[x0, x1, x2, x3, v, x5] t (0, 0)) := heap_setCell_same w b 4 _ t v h
theorem six5 {w : World} {b : Nat} {x0 x1 x2 x3 x4 x5 : Value} {t : TypeId} (h : w.heap[b]? = some (.cells #[x0, x1, x2, x3, x4, x5] t (0, 0))) (v : Value) : (w.setCell ⟨b, 5, none⟩ v).heap[b]? = some (.cells #[x0, x1, x2, x3, x4, v] t (0, 0)) := heap_setCell_same w b 5 _ t v h
theorem Lw.sured (h : Lw w B lb d lg vs sl) : Lw (w.setCell ⟨lb, 5, none⟩ (.int .u64 (lg.next : Int))) B lb d { lg with sure := lg.next } vs sl :=
  h.own ((Ch.refl _ w).setCell _ _ (fun _ => rfl)) rfl rfl (six5 h.hd _)
/-- a log with what the last one's sync came to -/
def gSure (lg : Lg) (no : Int) : Lg := if no ≠ 0 then lg else { lg with sure := lg.next }
theorem gSure_ok (h : Ok lg) (no : Int) : Ok (gSure lg no) := by
  unfold gSure
  split
  · exact h
  · exact h.sureNext
theorem nam_size (pre : ByteArray) (n : Nat) (hp : pre.size ≤ 8) (hn : n < 18446744073709551616) : (nam pre n).size ≤ 32 := by
  have h1 : (Lib.decDigits n).length ≤ 20 := by rw [Lib.decDigits_length]; exact Lib.nDigits_le20 n hn
  unfold nam dgs
  rw [ByteArray.size_append, S_size]
  simp
  omega
set_option maxRecDepth 100000 in
set_option maxHeartbeats 4000000 in
theorem sync_any {s : Sg} (h : Ls X w B lb d lg st) (hs : lg.segs.getLast? = some s) : Calls Tryz.prog 62 #[.pointer (some ⟨lb, 0, none⟩)] w fun e w' =>
    e = .returned (.int .i64 (aSync st (nam lg.pre s.first)).1) ∧ Lft X w B lb d (gSure lg (aSync st (nam lg.pre s.first)).1) (aSync st (nam lg.pre s.first)).2 w' := by
  obtain ⟨fs, p, off⟩ := st
  obtain ⟨es, mo, vs, sl, L, e, W, ok, h1, h2⟩ := h
  obtain rfl : fil es = fs := e
  obtain ⟨ys, hy⟩ := List.getLast?_eq_some_iff.1 hs
  obtain ⟨xs, v, rfl⟩ : ∃ xs v, vs = xs ++ [v] := by
    rcases List.eq_nil_or_concat vs with rfl | ⟨xs, v, e⟩
    · have := W.segs; rw [hy] at this; simp at this
    · exact ⟨xs, v, by simpa using e⟩
  obtain rfl : v.sg = s := by
    have := W.segs
    rw [hy, List.map_append] at this
    simpa using (List.append_inj' this rfl).2
  have hk := ok.pre.2
  have hv := (ok.seg (s := v.sg) (by rw [← W.segs]; simp)).2.1
  have hz : (nam lg.pre v.sg.first).size ≤ 9223372036854775807 := by
    have := nam_size lg.pre v.sg.first hk (by unfold Sg.next at hv; omega)
    omega
  have hn : xs.length < 4611686018427387904 := by
    have h5 := ok.count
    rw [← W.len] at h5
    simp at h5
    omega
  have c0 := W.c0
  have c4 := W.c4
  have hS := (W.sw v (by simp)).c0
  obtain ⟨no, st2, hr⟩ : ∃ no st2, aSync (fil es, p, off) (nam lg.pre v.sg.first) = (no, st2) := ⟨_, _, rfl⟩
  have hSy : ∀ q, Calls Tryz.prog 72 #[.pointer (some ⟨d, 0, none⟩), .string (nam lg.pre v.sg.first)] (w.drewN q) fun e w' => e = .returned (.int .i64 no) ∧ Did w B d es mo w' st2 := fun q => (Sync_any (L.below (below_drewN' (Below.refl _ w) q)) _ hz).mono fun _ _ x => by
    rw [hr] at x
    exact ⟨x.1, x.2.drawn⟩
  rw [hr]
  have HL : Hid (Ld w B d es p off mo ∧ Lw w B lb d lg (xs ++ [v]) sl ∧ Ok lg ∧ (∀ x, foot d mo es x → X x) ∧ ∀ x, lfoot lb sl (xs ++ [v]) x → X x) := ⟨L, W, ok, h1, h2⟩
  have HX : Hid (∀ w2, Did w B d es mo w2 st2 → Lw w2 B lb d lg (xs ++ [v]) sl ∧ Lft X w B lb d lg st2 w2 ∧ Lft X w B lb d { lg with sure := lg.next } st2 (w2.setCell ⟨lb, 5, none⟩ (.int .u64 (lg.next : Int)))) := fun w2 D => by
    have W2 := W.did (st := (fil es, p, off)) L D
    obtain ⟨es', mo', L', e', C, hf⟩ := D
    have C' : Ch X w w2 := C.mono (fun x _ hx => h1 x hx)
    have C2 : Ch (fun x => x = lb) w2 (w2.setCell ⟨lb, 5, none⟩ (.int .u64 (lg.next : Int))) := (Ch.refl _ w2).setCell _ _ (fun _ => rfl)
    refine ⟨W2, Ls.put L' e' W2 ok C' (fun x hx => (hf x hx).imp (h1 x) id) (fun x hx => .inl (h2 x hx)), Ls.put (L'.ch C2 (fun x hx e => W2.not_ld L' (.inl e) hx)) e' W2.sured ok.sureNext (C'.trans (C2.mono (fun x _ e => h2 x (.inl e)))) (fun x hx => (hf x hx).imp (h1 x) id) (fun x hx => .inl (h2 x hx))⟩
  clear L W h1 h2 hs hy ok hr
  go_enter Tryz.func62, Tryz.ntmps62
  go_wp2_with fail
  go_region_held3 (fun w' => w'.cell? ⟨lb, 0, none⟩ = some (.pointer (some ⟨d, 0, none⟩)) ∧ w'.cell? ⟨v.g, 0, none⟩ = some (.string (nam lg.pre v.sg.first)))
    (first | go_keep | exact ⟨k0, k1⟩)
    (first
      | (go_at_call 32; refine (last_some (HL.out.2.1.drewN 1) hn).mono ?_; rintro e w1 ⟨rfl, q, rfl⟩)
      | (go_at_call 72; refine (hSy _).mono ?_; rintro e w2 ⟨rfl, D2⟩; have W2 := (HX.out w2 D2).1; have k4 := W2.c4; have k5 := W2.fro 5; have k0 := W2.c0; have k1 := (W2.sw v (by simp)).c0; have k6 := W2.c5; have HD : Hid (Lft X w B lb d lg st2 w2 ∧ Lft X w B lb d { lg with sure := lg.next } st2 (w2.setCell ⟨lb, 5, none⟩ (.int .u64 (lg.next : Int)))) := (HX.out w2 D2).2; clear D2 W2))
  by_cases hno : no = 0
  · subst hno
    go_wp2
    go_ret
    exact ⟨rfl, HD.out.2⟩
  · have hbe : (no != 0) = true := by simpa using hno
    go_wp2
    go_ret
    refine ⟨rfl, ?_⟩
    rw [show gSure lg no = lg from if_pos hno]
    exact HD.out.1
end Go.Proofs.YteifkkceldlfnaaGreatDoor
namespace Go.Proofs.YteifkkceldlfnaaGreatDoor
open Go.RowKit Go.Shelf Go.Sort
open Go.Lib hiding intOf
variable {w w' w1 w2 : World} {B lb d : Nat} {lg lg' : Lg} {vs vs' : List Sv} {sl sl' : Value} {X Y : Nat → Prop} {st st' : Ab} {pre : ByteArray} {v : Sv} {es : List Le} {mo : Option Nat}

/-- a log and its disk, with the blocks that they lie in -/
structure Lo (X : Nat → Prop) (w : World) (B lb d : Nat) (lg : Lg) (st : Ab) (es : List Le) (mo : Option Nat) (vs : List Sv) (sl : Value) : Prop where
  ld : Ld w B d es st.2.1 st.2.2 mo
  fl : fil es = st.1
  lw : Lw w B lb d lg vs sl
  ok : Ok lg
  fx : ∀ x, foot d mo es x → X x
  lx : ∀ x, lfoot lb sl vs x → X x
theorem Ls.lo (h : Ls X w B lb d lg st) : ∃ es mo vs sl, Lo X w B lb d lg st es mo vs sl := by
  obtain ⟨es, mo, vs, sl, L, e, W, ok, h1, h2⟩ := h
  exact ⟨es, mo, vs, sl, L, e, W, ok, h1, h2⟩
theorem Lo.ls (h : Lo X w B lb d lg st es mo vs sl) : Ls X w B lb d lg st := ⟨es, mo, vs, sl, h.ld, h.fl, h.lw, h.ok, h.fx, h.lx⟩
theorem Lo.below (h : Lo X w B lb d lg st es mo vs sl) (hb : Below w.heap.size w w') : Lo X w' B lb d lg st es mo vs sl := ⟨h.ld.below hb, h.fl, h.lw.below hb, h.ok, h.fx, h.lx⟩
theorem Lo.mono (h : Lo X w B lb d lg st es mo vs sl) (hXY : ∀ x, X x → Y x) : Lo Y w B lb d lg st es mo vs sl := ⟨h.ld, h.fl, h.lw, h.ok, fun x hx => hXY x (h.fx x hx), fun x hx => hXY x (h.lx x hx)⟩
/-- a new segment -/
def fresh (n g : Nat) : Sv := ⟨⟨n, [], 0⟩, g, .slice none 0 0⟩
theorem fresh_sw {g n : Nat} (hh : w.heap[g]? = some (.cells #[.string (nam pre n), .int .u64 (n : Int), .int .i64 0, .slice none 0 0] 113 (0, 0))) (hB : B ≤ g) : Sw w B pre (fresh n g) := ⟨hh, World.ownsRow_nil _ _ _ _, hB⟩
theorem Lo.seg {xs : List Sv} (h : Lo X w B lb d lg st es mo (xs ++ [v]) sl) : lg.segs = xs.map Sv.sg ++ [v.sg] ∧ lg.segs.getLast? = some v.sg := by
  have := h.lw.segs
  rw [List.map_append] at this
  rw [← this]
  exact ⟨rfl, by simp⟩
theorem Lo.count {xs : List Sv} (h : Lo X w B lb d lg st es mo (xs ++ [v]) sl) : xs.length < 4611686018427387904 := by
  have h5 := h.ok.count
  rw [← h.lw.len] at h5
  simp at h5
  omega
/-- the new one, made behind all -/
theorem made (h : Lft X w B lb d lg st w1) (hB : B ≤ w.heap.size) (hb : Below w1.heap.size w1 w2) :
    ∃ es mo vs sl, Lo (fun x => X x ∨ w.heap.size ≤ x) (w2.alloc (.cells #[.string (nam lg.pre lg.next), .int .u64 (lg.next : Int), .int .i64 0, .slice none 0 0] 113)) B lb d lg st es mo vs sl ∧ Sw (w2.alloc (.cells #[.string (nam lg.pre lg.next), .int .u64 (lg.next : Int), .int .i64 0, .slice none 0 0] 113)) B lg.pre (fresh lg.next w2.heap.size) ∧ w.heap.size ≤ w2.heap.size ∧ ¬ lfoot lb sl vs w2.heap.size ∧ Ch X w (w2.alloc (.cells #[.string (nam lg.pre lg.next), .int .u64 (lg.next : Int), .int .i64 0, .slice none 0 0] 113)) := by
  obtain ⟨h, C⟩ := h
  obtain ⟨es, mo, vs, sl, o⟩ := h.lo
  have o2 := o.below hb
  have hs : w.heap.size ≤ w2.heap.size := Nat.le_trans C.size hb.size
  refine ⟨es, mo, vs, sl, o2.below ((Below.refl _ w2).alloc (Nat.le_refl _) _), fresh_sw (heap_alloc_new w2 _) (by omega), hs, fun hx => ?_, (C.trans (Ch.of_below hb)).alloc _⟩
  have := (o2.lw.foot_lt hx).1
  omega
/-- what room leaves -/
def RoomR (X : Nat → Prop) (w : World) (B lb d : Nat) (lg : Lg) (st : Ab) (pv : Value) (w' : World) : Prop :=
  ((gRoom lg st).1 ≠ 0 ∧ pv = .pointer none ∧ Lft X w B lb d (gRoom lg st).2.2.1 (gRoom lg st).2.2.2 w') ∨
  ((gRoom lg st).1 = 0 ∧ (∃ es mo xs v sl, (gRoom lg st).2.1 = some v.sg ∧ pv = .pointer (some ⟨v.g, 0, none⟩) ∧ Lo X w' B lb d lg st es mo (xs ++ [v]) sl ∧ (gRoom lg st).2.2 = (lg, st)) ∧ Ch X w w') ∨
  ((gRoom lg st).1 = 0 ∧ (gRoom lg st).2.1 = none ∧ ∃ es mo vs sl g, pv = .pointer (some ⟨g, 0, none⟩) ∧ Lo (fun x => X x ∨ w.heap.size ≤ x) w' B lb d (gRoom lg st).2.2.1 (gRoom lg st).2.2.2 es mo vs sl ∧ Sw w' B lg.pre (fresh lg.next g) ∧ w.heap.size ≤ g ∧ ¬ lfoot lb sl vs g ∧ Ch X w w')
theorem Lft.drawn (h : Lo X w B lb d lg st es mo vs sl) (q : Nat) : Lft X w B lb d lg st (w.drewN q) :=
  ⟨((h.below (below_drewN' (Below.refl _ w) q)).mono (fun _ hx => .inl hx)).ls, Ch.of_below (below_drewN' (Below.refl _ w) q)⟩
theorem Lft.below (h : Lft X w B lb d lg st w1) (hX : ∀ x, X x → B ≤ x) (hB : B ≤ w.heap.size) : Below B w w1 := h.2.below hB (fun k hk hx => by have := hX k hx; omega)
theorem Lft.undrawn {q : Nat} (h : Lft X (w.drewN q) B lb d lg st w1) : Lft X w B lb d lg st w1 := ⟨h.1, (Ch.of_below (below_drewN' (Below.refl _ w) q)).trans h.2⟩
theorem nilEql (g : Nat) (W : World) : (binOp .neq 83 (.pointer (some ⟨g, 0, none⟩)) (.pointer none)).run Tryz.prog W = .ok (.bool true) W := by kernel_rfl
set_option maxRecDepth 100000 in
set_option maxHeartbeats 4000000 in
theorem room_any (h : Lo X w B lb d lg st es mo vs sl) (hv : Gv B w) (hX : ∀ x, X x → B ≤ x) (hB : B ≤ w.heap.size) : Calls Tryz.prog 60 #[.pointer (some ⟨lb, 0, none⟩)] w fun e w' =>
    ∃ pv, e = .returned (.tuple #[pv, .int .i64 (gRoom lg st).1]) ∧ RoomR X w B lb d lg st pv w' := by
  have hp := h.ok.pre.2
  have hn := h.ok.next.2
  have hnext : lg.next < 18446744073709551616 := by omega
  rcases List.eq_nil_or_concat vs with rfl | ⟨xs, v, hvs⟩
  · have hs : lg.segs = [] := by have := h.lw.segs; simpa using this.symm
    have hg : gRoom lg st = (0, none, lg, st) := by unfold gRoom; rw [hs]; rfl
    have hlast := last_none h.lw
    have HV : Hid (Gv B w) := hv
    have HO : Hid (Lo X w B lb d lg st es mo [] sl) := h
    rw [show (gRoom lg st).1 = 0 by rw [hg]]
    have HG : Hid (gRoom lg st = (0, none, lg, st)) := hg
    have c1 := h.lw.c1
    have c4 := h.lw.c4
    clear h hv hs hg
    go_enter Tryz.func60, Tryz.ntmps60
    go_wp2_with (go_at_call 32; refine hlast.mono ?_; rintro e w1 ⟨rfl, q, rfl⟩)
    go_region_held3 (fun w' => w'.cell? ⟨lb, 1, none⟩ = some (.string lg.pre) ∧ w'.cell? ⟨lb, 4, none⟩ = some (.int .u64 (lg.next : Int)))
      (first | go_keep | exact ⟨k1, k4⟩ | exact ⟨m1, m4⟩)
      (first
        | (go_at_call 92; refine (nameOf_any lg.pre lg.next hnext hp _ (HV.out.below ((below_drewN' (Below.refl _ w) _).mono hB)).here).mono ?_; rintro e w2 ⟨rfl, hb2⟩; have hb3 := hb2; (have k1 := (hb2.cell (p := ⟨lb, 1, none⟩) HO.out.lw.lt).trans (show _ = some (.string lg.pre) by simpa using c1)); (have k4 := (hb2.cell (p := ⟨lb, 4, none⟩) HO.out.lw.lt).trans (show _ = some (.int .u64 (lg.next : Int)) by simpa using c4)); have HB2 : Hid _ := hb2; clear hb2 hb3))
    go_wp2
    go_ret2
    obtain ⟨es', mo', vs', sl', o', s', h1, h2, h3⟩ := made (Lft.drawn HO.out _) hB HB2.out
    refine ⟨_, rfl, ?_⟩
    unfold RoomR
    rw [HG.out]
    refine .inr (.inr ⟨rfl, rfl, ?_⟩)
    exact ⟨es', mo', vs', sl', _, rfl, o', s', h1, h2, h3⟩
  · rw [List.concat_eq_append] at hvs
    subst hvs
    obtain ⟨hs, hl⟩ := h.seg
    have hlast := last_some h.lw h.count
    have hq := nilEql v.g
    have c2 := h.lw.c2
    have s2 := (h.lw.sw v (by simp)).c2
    have HV : Hid (Gv B w) := hv
    have HO : Hid (Lo X w B lb d lg st es mo (xs ++ [v]) sl) := h
    by_cases hz : v.sg.size < lg.sz
    · have hg : gRoom lg st = (0, some v.sg, lg, st) := by unfold gRoom; rw [hl]; simp only; rw [if_pos hz]
      rw [show (gRoom lg st).1 = 0 by rw [hg]]
      have HG : Hid (gRoom lg st = (0, some v.sg, lg, st)) := hg
      have hz' : (v.sg.size : Int) < (lg.sz : Int) := by omega
      clear h hv hs hl hg
      go_enter Tryz.func60, Tryz.ntmps60
      go_wp2_with (go_at_call 32; refine hlast.mono ?_; rintro e w1 ⟨rfl, q, rfl⟩)
      go_quiet (fail)
      go_wp2
      go_ret2
      have hb := below_drewN' (below_drewN' (Below.refl w.heap.size w) q) nq
      refine ⟨_, rfl, ?_⟩
      unfold RoomR
      rw [HG.out]
      exact .inr (.inl ⟨rfl, ⟨es, mo, xs, v, sl, rfl, rfl, HO.out.below hb, rfl⟩, Ch.of_below hb⟩)
    · have hz' : ¬ (v.sg.size : Int) < (lg.sz : Int) := by omega
      have hsy := fun q => sync_any (HO.out.below (below_drewN' (Below.refl _ w) q)).ls hl
      obtain ⟨no, st2, hr⟩ : ∃ no st2, aSync st (nam lg.pre v.sg.first) = (no, st2) := ⟨_, _, rfl⟩
      rw [hr] at hsy
      by_cases hno : no = 0
      · subst hno
        have hg : gRoom lg st = (0, none, { lg with sure := lg.next }, st2) := by unfold gRoom; rw [hl]; simp only; rw [if_neg hz, hr]; rfl
        rw [show (gRoom lg st).1 = 0 by rw [hg]]
        have HG : Hid (gRoom lg st = (0, none, { lg with sure := lg.next }, st2)) := hg
        rw [show gSure lg 0 = { lg with sure := lg.next } from rfl] at hsy
        clear h hv hs hl hr hg
        go_enter Tryz.func60, Tryz.ntmps60
        go_wp2_with (go_at_call 32; refine hlast.mono ?_; rintro e w1 ⟨rfl, q, rfl⟩)
        go_quiet (fail)
        go_wp2_with (go_at_call 62; refine (hsy _).mono ?_; rintro e w2 ⟨rfl, h2⟩; obtain ⟨e2, m2, v2, l2, o2⟩ := h2.1.lo; have k1 := o2.lw.c1; have k4 := o2.lw.c4; have hlt := o2.lw.lt; (have HB : Hid (Below B w w2) := ((below_drewN' (Below.refl w.heap.size w) _).mono hB).trans (Lft.below h2 hX hB)); have H2 : Hid _ := h2; clear h2 o2)
        go_region_held3 (fun w' => w'.cell? ⟨lb, 1, none⟩ = some (.string lg.pre) ∧ w'.cell? ⟨lb, 4, none⟩ = some (.int .u64 (lg.next : Int)))
          (first | go_keep | exact ⟨m1, m4⟩)
          (first
            | (go_at_call 92; refine (nameOf_any lg.pre lg.next hnext hp _ (HV.out.below (HB.out.trans (Below.drew (Below.refl B w2)))).here).mono ?_; rintro e w3 ⟨rfl, hb3⟩; (have m1 := (hb3.cell (p := ⟨lb, 1, none⟩) hlt).trans (show _ = some (.string lg.pre) by simpa using k1)); (have m4 := (hb3.cell (p := ⟨lb, 4, none⟩) hlt).trans (show _ = some (.int .u64 (lg.next : Int)) by simpa using k4)); have HB3 : Hid _ := hb3; clear hb3))
        go_wp2
        go_ret2
        obtain ⟨es', mo', vs', sl', o', s', h1, h2, h3⟩ := made (Lft.undrawn H2.out) hB ((Below.drew (Below.refl w2.heap.size w2)).trans HB3.out)
        refine ⟨_, rfl, ?_⟩
        unfold RoomR
        rw [HG.out]
        refine .inr (.inr ⟨rfl, rfl, ?_⟩)
        exact ⟨es', mo', vs', sl', _, rfl, o', s', h1, h2, h3⟩
      · have hg : gRoom lg st = (no, none, lg, st2) := by unfold gRoom; rw [hl]; simp only; rw [if_neg hz, hr, if_pos hno]
        rw [show (gRoom lg st).1 = no by rw [hg]]
        have HG : Hid (gRoom lg st = (no, none, lg, st2)) := hg
        have hbe : (no != 0) = true := by simpa using hno
        rw [show gSure lg no = lg from if_pos hno] at hsy
        clear h hv hs hl hr hg
        go_enter Tryz.func60, Tryz.ntmps60
        go_wp2_with (go_at_call 32; refine hlast.mono ?_; rintro e w1 ⟨rfl, q, rfl⟩)
        go_quiet (fail)
        go_wp2_with (go_at_call 62; refine (hsy _).mono ?_; rintro e w2 ⟨rfl, h2⟩; have H2 : Hid _ := h2; clear h2)
        go_ret2
        refine ⟨_, rfl, ?_⟩
        unfold RoomR
        rw [HG.out]
        exact .inl ⟨hno, rfl, Lft.undrawn H2.out⟩
end Go.Proofs.YteifkkceldlfnaaGreatDoor
namespace Go.Proofs.YteifkkceldlfnaaGreatDoor
open Go.RowKit Go.Shelf Go.Sort
open Go.Lib hiding intOf
variable {w w' w1 w2 wr : World} {B : Nat} {pre : ByteArray} {v : Sv} {l : List (List UInt8)} {i : Nat} {rv : Value}

/-- so many of a batch's records are there -/
structure JA (w wr : World) (B : Nat) (pre : ByteArray) (v : Sv) (l : List (List UInt8)) (i : Nat) (rv : Value) : Prop where
  sw : Sw wr B pre ⟨⟨v.sg.first, v.sg.recs ++ l.take i, v.sg.size⟩, v.g, rv⟩
  ch : Ch (fun x => v.at x) w wr
  nb : ∀ x, rv.ownBlock = some x → v.rv.ownBlock = some x ∨ w.heap.size ≤ x
theorem four3 {w : World} {b : Nat} {x0 x1 x2 x3 : Value} {t : TypeId} (h : w.heap[b]? = some (.cells #[x0, x1, x2, x3] t (0, 0))) (v : Value) : (w.setCell ⟨b, 3, none⟩ v).heap[b]? = some (.cells #[x0, x1, x2, v] t (0, 0)) := heap_setCell_same w b 3 _ t v h
theorem four2 {w : World} {b : Nat} {x0 x1 x2 x3 : Value} {t : TypeId} (h : w.heap[b]? = some (.cells #[x0, x1, x2, x3] t (0, 0))) (v : Value) : (w.setCell ⟨b, 2, none⟩ v).heap[b]? = some (.cells #[x0, x1, v, x3] t (0, 0)) := heap_setCell_same w b 2 _ t v h
theorem Sw.rv_g (h : Sw w B pre v) {x : Nat} (hx : v.rv.ownBlock = some x) : x ≠ v.g := by
  rintro rfl
  obtain ⟨_, cur, hcc⟩ := row_obj h.row hx
  rw [h.hd] at hcc; injection hcc with hcc; injection hcc with _ hcc; cases hcc
/-- what an append of one more leaves, ahead of the store -/
theorem add_mid {o : Obj} {w4 : World} (J : JA w wr B pre v l i rv) (hb : Below wr.heap.size wr w1) (hg : (w1.alloc o).grownBy w4 rv.ownBlock) :
    w4.cell? ⟨v.g, 3, none⟩ = some rv ∧ w4.frozen? ⟨v.g, 3, none⟩ = false ∧ w4.heap[v.g]? = some (.cells #[.string (nam pre v.sg.first), .int .u64 (v.sg.first : Int), .int .i64 (v.sg.size : Int), rv] 113 (0, 0)) := by
  have s1 := J.sw.below (hb.alloc hb.size o)
  have hh : w4.heap[v.g]? = some (.cells #[.string (nam pre v.sg.first), .int .u64 (v.sg.first : Int), .int .i64 (v.sg.size : Int), rv] 113 (0, 0)) :=
    (hg.block v.g s1.lt (fun e => s1.rv_g e.symm rfl)).trans s1.hd
  exact ⟨by simp [World.cell?, hh], by simp [World.frozen?, hh], hh⟩
theorem add_step {o : Obj} {w4 : World} {gg cap : Nat} (J : JA w wr B pre v l i rv) (hi : i < l.length) (hb : Below wr.heap.size wr w1) (hg : (w1.alloc o).grownBy w4 rv.ownBlock)
    (hown : w4.ownsRow B 9 1 (.slice (some ⟨gg, 0, none⟩) ((v.sg.recs ++ l.take i).length + 1) cap) ((v.sg.recs ++ l.take i).length + 1) (strCs (v.sg.recs ++ l.take i) ++ [.string (S l[i])]))
    (hat : rv.ownBlock = some gg ∨ gg = (w1.alloc o).heap.size) : JA w (w4.setCell ⟨v.g, 3, none⟩ (.slice (some ⟨gg, 0, none⟩) ((v.sg.recs ++ l.take i).length + 1) cap)) B pre v l (i + 1) (.slice (some ⟨gg, 0, none⟩) ((v.sg.recs ++ l.take i).length + 1) cap) := by
  obtain ⟨-, -, hh⟩ := add_mid J hb hg
  have hlt := J.sw.lt
  have hne : gg ≠ v.g := by
    rcases hat with h1 | h1
    · exact J.sw.rv_g h1
    · have := hb.size
      simp at h1
      have : v.g < wr.heap.size := hlt
      omega
  have C2 : Ch (fun x => x = v.g) w4 (w4.setCell ⟨v.g, 3, none⟩ (.slice (some ⟨gg, 0, none⟩) ((v.sg.recs ++ l.take i).length + 1) cap)) := (Ch.refl _ w4).setCell _ _ (fun _ => rfl)
  have e1 : v.sg.recs ++ l.take (i + 1) = (v.sg.recs ++ l.take i) ++ [l[i]] := by rw [List.take_succ_eq_append_getElem hi, List.append_assoc]
  have C1 : Ch (fun x => rv.ownBlock = some x) wr w4 := ((Ch.of_below hb).alloc o).trans (Ch.of_grown hg (fun x e _ => e))
  refine ⟨⟨four3 hh _, ?_, J.sw.low⟩, ?_, ?_⟩
  · simp only
    rw [e1, strCs_snoc, List.length_append (bs := [l[i]])]
    exact C2.row hown (fun k hk e => by cases hk; exact hne e)
  · refine ⟨?_, ?_, ?_, ?_, ?_⟩
    · exact C2.os.trans (C1.os.trans J.ch.os)
    · exact C2.tape.trans (C1.tape.trans J.ch.tape)
    · exact C2.output.trans (C1.output.trans J.ch.output)
    · exact Nat.le_trans J.ch.size (Nat.le_trans C1.size C2.size)
    · intro k hk hX
      have hk1 := Nat.lt_of_lt_of_le hk J.ch.size
      refine (C2.block k (Nat.lt_of_lt_of_le hk1 C1.size) (fun e => hX (.inl e))).trans ((C1.block k hk1 (fun e => ?_)).trans (J.ch.block k hk hX))
      rcases J.nb k e with h1 | h1
      · exact hX (.inr h1)
      · omega
  · intro x hx
    obtain rfl : gg = x := by simpa [Value.ownBlock] using hx
    rcases hat with h1 | h1
    · exact J.nb _ h1
    · have := hb.size
      have := J.ch.size
      simp at h1
      exact .inr (by omega)
theorem row_below' {v : Value} {n : Nat} {xs : List Value} {e : TypeId} {size base : Nat} (h : w.ownsRow base e size v n xs) (hb : Below w.heap.size w w1) : w1.ownsRow base e size v n xs :=
  (show Ch (fun _ => False) w w1 from Ch.of_below hb).row h (fun _ _ => id)
set_option maxRecDepth 100000 in
set_option maxHeartbeats 4000000 in
theorem add_any {av : Value} {n : Nat} (h : Sw w B pre v) (ha : Strs w av l) (hna : l ≠ [] → ∀ b o m c, av = .slice (some ⟨b, o, none⟩) m c → ¬ v.at b) (hB : B ≤ w.heap.size) (hl : v.sg.recs.length + l.length ≤ 2199023255552) (hr : ∀ r ∈ l, r.length ≤ 281474976710656) (hn : v.sg.size + n ≤ 4611686018427387904) :
    Calls Tryz.prog 61 #[.pointer (some ⟨v.g, 0, none⟩), av, .int .i64 (n : Int)] w fun e w' => (∃ x, e = .returned x) ∧ ∃ rv, Sw w' B pre ⟨v.sg.more l n, v.g, rv⟩ ∧ Ch (fun x => v.at x) w w' ∧ ∀ x, rv.ownBlock = some x → v.rv.ownBlock = some x ∨ w.heap.size ≤ x := by
  obtain ⟨i0, hi0, hz0, hz1, hz2⟩ := info_parts infoStr
  obtain ⟨a, c, rfl, hcs⟩ := ha
  have H0 : Hid (JA w w B pre v l 0 v.rv) := ⟨by simpa using h, Ch.refl _ w, fun _ hx => .inl hx⟩
  have HC : Hid (l = [] ∨ ∃ b off, a = some ⟨b, off, none⟩ ∧ ¬ v.at b ∧ ∀ j, j < l.length → w.cell? ⟨b, off + j, none⟩ = some (.string (S (l.getD j [])))) := by
    by_cases h0 : l = []
    · exact .inl h0
    · rcases hcs with h1 | ⟨b, off, rfl, _, h2⟩
      · exact absurd h1 h0
      · exact .inr ⟨b, off, rfl, hna h0 b off _ _ rfl, h2⟩
  clear hna hcs h
  go_enter Tryz.func61, Tryz.ntmps61
  go_wp2_with fail
  go_loopw [10] (fun vi wr => ∃ (i : Nat) (rv : Value), vi = .int .i64 (i : Int) ∧ i ≤ l.length ∧ Hid (JA w wr B pre v l i rv)) (fun vi _ => l.length - (intOf vi).toNat)
  case atStart => exact ⟨0, v.rv, rfl, Nat.zero_le _, H0⟩
  case round =>
    obtain ⟨i, rv, rfl, hi, HJ⟩ := hrel
    by_cases hil : i < l.length
    · have hli : (i : Int) < (l.length : Int) := by omega
      have hi1 : (0 : Int) ≤ (i : Int) := Int.natCast_nonneg _
      obtain ⟨b, off, rfl, hnb, hc⟩ : ∃ b off, a = some ⟨b, off, none⟩ ∧ ¬ v.at b ∧ ∀ j, j < l.length → w.cell? ⟨b, off + j, none⟩ = some (.string (S (l.getD j []))) := by
        rcases HC.out with h1 | h1
        · rw [h1] at hil; simp at hil
        · exact h1
      have m0 := HJ.out.ch.cell (hc i hil) hnb
      rw [show l.getD i [] = l[i] by simp [hil]] at m0
      have c3 := HJ.out.sw.c3
      have f3 := HJ.out.sw.fro 3
      simp only at c3 f3
      obtain ⟨ra, rc, hra, -⟩ := row_slice HJ.out.sw.row
      simp only at hra
      have hlen : (v.sg.recs ++ l.take i).length ≤ v.sg.recs.length + l.length := by simp; omega
      obtain ⟨k, HK⟩ : ∃ k, Hid ((v.sg.recs ++ l.take i).length = k) := ⟨(v.sg.recs ++ l.take i).length, show (v.sg.recs ++ l.take i).length = _ from rfl⟩
      obtain ⟨vr, HVR⟩ : ∃ vr, Hid (S l[i] = vr) := ⟨S l[i], show S l[i] = S l[i] from rfl⟩
      have q5 : vr.size ≤ 281474976710656 := by rw [← HVR.out, S_size]; exact hr l[i] (List.getElem_mem hil)
      rw [HVR.out] at m0
      rw [HK.out] at hra hlen
      subst hra
      have HR : Hid (wr.ownsRow B 9 1 (.slice ra k rc) k (strCs (v.sg.recs ++ l.take i))) := by
        have := HJ.out.sw.row
        simp only at this
        rw [HK.out] at this
        exact this
      have HS : Hid (∀ (o : Obj) (w1 w4 : World) (gg cap : Nat), Below wr.heap.size wr w1 → (w1.alloc o).grownBy w4 (Value.slice ra k rc).ownBlock → w4.ownsRow B 9 1 (.slice (some ⟨gg, 0, none⟩) (k + 1) cap) (k + 1) (strCs (v.sg.recs ++ l.take i) ++ [.string vr]) → ((Value.slice ra k rc).ownBlock = some gg ∨ gg = w1.heap.size + 1) → JA w (w4.setCell ⟨v.g, 3, none⟩ (.slice (some ⟨gg, 0, none⟩) (k + 1) cap)) B pre v l (i + 1) (.slice (some ⟨gg, 0, none⟩) (k + 1) cap)) := fun o w1 w4 gg cap a1 a2 a3 a4 => by
        rw [← HVR.out, ← HK.out] at a3
        have := add_step HJ.out hil a1 a2 a3 (by rw [World.size_alloc]; exact a4)
        rw [HK.out] at this
        exact this
      have q1 : k + 1 ≤ maxLen := by unfold maxLen; omega
      have q2 : (k + 1) * 16 ≤ 140737488355328 := by omega
      have q4 := HJ.out.ch.size
      have hlt : v.g < wr.heap.size := HJ.out.sw.lt
      clear hc hlen
      generalize strCs (v.sg.recs ++ l.take i) = cs at *
      go_wp2_with fail
      go_region_law (first
          | (go_simp; go_at_call 31; refine (clone_any vr _ q5).mono ?_; rintro e w1 ⟨rfl, hb1⟩; dsimp only; have k3 := (hb1.cell (p := ⟨v.g, 3, none⟩) hlt).trans (show _ = some (.slice ra k rc) by simpa using c3); (have HB1 : Hid (Below wr.heap.size wr w1) := (Below.drew (Below.refl _ wr)).trans hb1); have q6 := HB1.out.size; (have k7 : (w1.alloc (.cells #[.string vr] 9)).cell? ⟨v.g, 3, none⟩ = some (.slice ra k rc) := (((Below.refl _ w1).alloc (Nat.le_refl _) _).cell (p := ⟨v.g, 3, none⟩) (Nat.lt_of_lt_of_le hlt q6)).trans k3); clear hb1)
          | (refine step_append_lies _ (by rfl) _ _ _ (by rfl) B 9 i0 _ 1 16 Tryz.underlying35 hi0 hz0 hz1 hz2 rfl (by decide) (.slice ra k rc) k cs (by rfl) ((row_below' HR.out HB1.out).alloc _) ⟨w1.heap.size, 0, none⟩ 1 1 [.string vr] (by rfl) (by rfl) (new_one _ _ rfl _ _) (by simp [Value.oneCell']) (by decide) q1 q2 (by rw [World.size_alloc]; omega) (w1.heap.size + 1) (by rw [World.size_alloc]) ?_; intro gg cap w4 hown1 hgrow hat hlt4; obtain ⟨k4, k5, -⟩ := add_mid HJ.out HB1.out hgrow; have HE : Hid _ := HS.out _ _ _ _ _ HB1.out hgrow hown1 hat; clear hown1 hgrow hat))
      all_goals go_wp2
      all_goals go_roundw
      all_goals first
        | exact ⟨i + 1, _, by simp, by omega, HE⟩
        | (simp [intOf]; omega)
    · have hli : ¬ (i : Int) < (l.length : Int) := by omega
      obtain rfl : i = l.length := by omega
      have c2 := HJ.out.sw.c2
      have f2 := HJ.out.sw.fro 2
      simp only at c2 f2
      have hw : IntKind.i64.wrap ((v.sg.size : Int) + (n : Int)) = (v.sg.size : Int) + (n : Int) := by rw [IntKind.wrap_i64]; omega
      have HW : Hid ((v.sg.size : Int) + (n : Int) = ((v.sg.size + n : Nat) : Int)) := by rw [Hid]; omega
      have HF : Hid (Sw (wr.setCell ⟨v.g, 2, none⟩ (.int .i64 ((v.sg.size + n : Nat) : Int))) B pre ⟨v.sg.more l n, v.g, rv⟩ ∧ Ch (fun x => v.at x) w (wr.setCell ⟨v.g, 2, none⟩ (.int .i64 ((v.sg.size + n : Nat) : Int))) ∧ ∀ x, rv.ownBlock = some x → v.rv.ownBlock = some x ∨ w.heap.size ≤ x) := by
        have J := HJ.out
        refine ⟨⟨four2 J.sw.hd _, ?_, J.sw.low⟩, J.ch.setCell _ _ (fun _ => .inl rfl), J.nb⟩
        have hr := J.sw.row
        simp only [List.take_length] at hr
        exact ((Ch.refl (fun x => x = v.g) wr).setCell ⟨v.g, 2, none⟩ _ (fun _ => rfl)).row hr (fun k hk e => J.sw.rv_g hk e)
      go_wp2
      go_end0
      refine ⟨⟨_, rfl⟩, rv, ?_⟩
      rw [HW.out]
      exact HF.out
end Go.Proofs.YteifkkceldlfnaaGreatDoor
namespace Go.Proofs.YteifkkceldlfnaaGreatDoor
open Go.RowKit Go.Shelf Go.Sort
open Go.Lib hiding intOf
variable {w w' w1 w2 w3 wr : World} {B lb d g n : Nat} {lg lg' : Lg} {vs vs' xs : List Sv} {sl sl' rv : Value} {X Y : Nat → Prop} {st st' : Ab} {pre : ByteArray} {v : Sv} {es : List Le} {mo : Option Nat} {l : List (List UInt8)}

abbrev Sv.more (v : Sv) (l : List (List UInt8)) (n : Nat) (rv : Value) : Sv := ⟨v.sg.more l n, v.g, rv⟩
/-- strings that lie in no block of X -/
def Offs (X : Nat → Prop) (av : Value) (l : List (List UInt8)) : Prop := l ≠ [] → ∀ b o m c, av = .slice (some ⟨b, o, none⟩) m c → ¬ X b
theorem Strs.offs {av : Value} (h : Strs w av l) (hab : Offs X av l) (hb : Ch (fun x => X x ∨ w.heap.size ≤ x) w w') : Strs w' av l := by
  obtain ⟨a, c, rfl, h⟩ := h
  refine ⟨a, c, rfl, ?_⟩
  by_cases h0 : l = []
  · exact .inl h0
  · rcases h with h | ⟨b, off, rfl, hlt, hc⟩
    · exact absurd h h0
    · have hB := hab h0 b off _ _ rfl
      exact .inr ⟨b, off, rfl, Nat.lt_of_lt_of_le hlt hb.size, fun j hj => hb.cell (hc j hj) (fun hx => hx.elim hB (fun h1 => by simp only at h1; omega))⟩
theorem Strs.lt {av : Value} (h : Strs w av l) (h0 : l ≠ []) {b o m c : Nat} (e : av = .slice (some ⟨b, o, none⟩) m c) : b < w.heap.size := by
  obtain ⟨a, c', rfl, h⟩ := h
  rcases h with h | ⟨b', off, rfl, hlt, hc⟩
  · exact absurd h h0
  · cases e; exact hlt
theorem Sw.not_ld {p : Int} {off : Bool} (h : Sw w B pre v) (k : Ld w B d es p off mo) {x : Nat} (hx : v.at x) : ¬ foot d mo es x := by
  intro hf
  obtain ⟨cur, t, h1, h2⟩ := h.kind hx
  rcases k.kind hf with ⟨a, c, h3⟩ | ⟨cur', t', h3, h4⟩
  · rw [h1] at h3; cases h3
  · rw [h1] at h3
    injection h3 with h3
    injection h3 with _ h3
    subst h3
    rcases h2 with rfl | rfl <;> rcases h4 with h4 | h4 | h4 <;> cases h4
theorem Lft.widen (h : Lft X w1 B lb d lg st w2) (C : Ch X w w1) : Lft X w B lb d lg st w2 :=
  ⟨h.1.mono (fun _ hx => hx.imp id (Nat.le_trans C.size)), C.trans h.2⟩
/-- the disk took a frame, the last segment got its records -/
theorem Lo.turned (o : Lo X w1 B lb d lg st es mo (xs ++ [v]) sl) (C0 : Ch X w w1) (D : Did w1 B d es mo w2 st') (S3 : Sw w3 B lg.pre (v.more l n rv)) (C3 : Ch (fun x => v.at x) w2 w3) (nb : ∀ x, rv.ownBlock = some x → v.rv.ownBlock = some x ∨ w2.heap.size ≤ x)
    (ok' : Ok { lg with segs := (xs ++ [v.more l n rv]).map Sv.sg, next := (v.sg.more l n).next }) :
    Lw w3 B lb d { lg with segs := (xs ++ [v.more l n rv]).map Sv.sg } (xs ++ [v.more l n rv]) sl ∧
    ∀ q, Lft X w B lb d { lg with segs := (xs ++ [v.more l n rv]).map Sv.sg, next := (v.sg.more l n).next } st' ((w3.drewN q).setCell ⟨lb, 4, none⟩ (.int .u64 ((v.sg.more l n).next : Int))) := by
  have W2 := o.lw.did (st := st) o.ld D
  obtain ⟨es', mo', L', e', C, hf⟩ := D
  have W3 := W2.turn (v' := v.more l n rv) C3 S3 rfl nb
  refine ⟨W3, fun q => ?_⟩
  have L3 : Ld w3 B d es' st'.2.1 st'.2.2 mo' := L'.ch C3 (fun x hx hv => (W2.sw v (by simp)).not_ld L' hv hx)
  have hb := below_drewN' (Below.refl w3.heap.size w3) q
  have W4 := W3.below hb
  have L4 := L3.below hb
  have C4 : Ch (fun x => x = lb) (w3.drewN q) ((w3.drewN q).setCell ⟨lb, 4, none⟩ (.int .u64 ((v.sg.more l n).next : Int))) := (Ch.refl _ _).setCell _ _ (fun _ => rfl)
  have hlx : ∀ x, v.at x → lfoot lb sl (xs ++ [v]) x := fun x hx => .inr (.inr ⟨v, by simp, hx⟩)
  refine Ls.put (L4.ch C4 (fun x hx e => W4.not_ld L4 (.inl e) hx)) e' (W4.own C4 rfl rfl (six4 W4.hd _)) ok' ?_ (fun x hx => (hf x hx).imp (o.fx x) (Nat.le_trans C0.size)) ?_
  · exact C0.trans ((C.mono (fun x _ hx => o.fx x hx)).trans ((C3.mono (fun x _ hx => o.lx x (hlx x hx))).trans ((Ch.of_below hb).trans (C4.mono (fun x _ e => o.lx x (.inl e))))))
  · rintro x (hx | hx | ⟨u, hu, hx⟩)
    · exact .inl (o.lx x (.inl hx))
    · exact .inl (o.lx x (.inr (.inl hx)))
    · rcases List.mem_append.1 hu with hu | hu
      · exact .inl (o.lx x (.inr (.inr ⟨u, List.mem_append_left _ hu, hx⟩)))
      · rcases List.mem_singleton.1 hu with rfl
        rcases hx with hx | hx
        · exact .inl (o.lx x (hlx x (.inl hx)))
        · rcases nb x hx with h1 | h1
          · exact .inl (o.lx x (hlx x (.inr h1)))
          · exact .inr (Nat.le_trans C0.size (Nat.le_trans C.size h1))
/-- the disk took the first frame of a new segment, which got its records -/
theorem Lo.newed {X1 : Nat → Prop} (o : Lo X1 w1 B lb d lg st es mo vs sl) (hX1 : ∀ x, X1 x → X x ∨ w.heap.size ≤ x) (C0 : Ch X w w1) (S1 : Sw w1 B lg.pre (fresh lg.next g)) (hg : w.heap.size ≤ g) (hng : ¬ lfoot lb sl vs g)
    (D : Did w1 B d es mo w2 st') (S3 : Sw w3 B lg.pre ((fresh lg.next g).more l n rv)) (C3 : Ch (fun x => (fresh lg.next g).at x) w2 w3) (nb : ∀ x, rv.ownBlock = some x → w2.heap.size ≤ x)
    (ok' : Ok { lg with segs := (vs ++ [(fresh lg.next g).more l n rv]).map Sv.sg, next := ((fresh lg.next g).sg.more l n).next }) :
    Lw w3 B lb d lg vs sl ∧ ∀ (W w4 : World) (sl' : Value), Below w3.heap.size w3 W → W.grownBy w4 sl.ownBlock → w4.ownsRow B 83 1 sl' (vs.length + 1) (vs.map ptr ++ [.pointer (some ⟨g, 0, none⟩)]) → (∀ x, sl'.ownBlock = some x → sl.ownBlock = some x ∨ W.heap.size ≤ x) →
      w4.cell? ⟨lb, 3, none⟩ = some sl ∧ w4.frozen? ⟨lb, 3, none⟩ = false ∧ Sw (w4.setCell ⟨lb, 3, none⟩ sl') B lg.pre ((fresh lg.next g).more l n rv) ∧ Lw (w4.setCell ⟨lb, 3, none⟩ sl') B lb d { lg with segs := (vs ++ [(fresh lg.next g).more l n rv]).map Sv.sg } (vs ++ [(fresh lg.next g).more l n rv]) sl' ∧
      ∀ q, Lft X w B lb d { lg with segs := (vs ++ [(fresh lg.next g).more l n rv]).map Sv.sg, next := ((fresh lg.next g).sg.more l n).next } st' (((w4.setCell ⟨lb, 3, none⟩ sl').drewN q).setCell ⟨lb, 4, none⟩ (.int .u64 (((fresh lg.next g).sg.more l n).next : Int))) := by
  have W2 := o.lw.did (st := st) o.ld D
  obtain ⟨es', mo', L', e', C, hf⟩ := D
  have hat : ∀ x, (fresh lg.next g).at x → x = g := fun x hx => hx.elim id (fun e => by cases e)
  have S2 := S1.ch C (fun x hx hf => S1.not_ld o.ld hx hf)
  have W3 : Lw w3 B lb d lg vs sl := W2.ch C3 (fun x hx hv => hng (by rw [← hat x hv]; exact hx))
  have L3 : Ld w3 B d es' st'.2.1 st'.2.2 mo' := L'.ch C3 (fun x hx hv => S2.not_ld L' hv hx)
  refine ⟨W3, fun W w4 sl' hW hgr hr hb => ?_⟩
  have W5 := W3.below hW
  have L5 := L3.below hW
  have S5 := S3.below hW
  have hnf : ∀ x, ((fresh lg.next g).more l n rv).at x → ¬ lfoot lb sl vs x := by
    rintro x (hx | hx) hl
    · exact hng (by have hx : x = g := hx; rw [← hx]; exact hl)
    · have := nb x hx
      have := (W2.foot_lt hl).1
      omega
  obtain ⟨W6, C6⟩ := W5.snoc (v := (fresh lg.next g).more l n rv) S5 hnf hgr hr hb
  have hd4 : w4.heap[lb]? = some (.cells #[.pointer (some ⟨d, 0, none⟩), .string lg.pre, .int .i64 (lg.sz : Int), sl, .int .u64 (lg.next : Int), .int .u64 (lg.sure : Int)] 82 (0, 0)) := (hgr.block lb W5.lt (fun e => W5.sl_lb e.symm)).trans W5.hd
  refine ⟨by simp [World.cell?, hd4], by simp [World.frozen?, hd4], W6.sw _ (by simp), W6, fun q => ?_⟩
  have L6 : Ld (w4.setCell ⟨lb, 3, none⟩ sl') B d es' st'.2.1 st'.2.2 mo' := L5.ch C6 (fun x hx hl => W5.not_ld L5 hl hx)
  have hb7 := below_drewN' (Below.refl (w4.setCell ⟨lb, 3, none⟩ sl').heap.size (w4.setCell ⟨lb, 3, none⟩ sl')) q
  have W7 := W6.below hb7
  have L7 := L6.below hb7
  have C8 : Ch (fun x => x = lb) ((w4.setCell ⟨lb, 3, none⟩ sl').drewN q) (((w4.setCell ⟨lb, 3, none⟩ sl').drewN q).setCell ⟨lb, 4, none⟩ (.int .u64 (((fresh lg.next g).sg.more l n).next : Int))) := (Ch.refl _ _).setCell _ _ (fun _ => rfl)
  have s1 := C0.size
  have s2 := C.size
  have s3 := C3.size
  have s4 := hW.size
  -- all that was there is as it was, but for X
  have CA : Ch X w w2 := ⟨C.os.trans C0.os, C.tape.trans C0.tape, C.output.trans C0.output, Nat.le_trans s1 s2, fun k hk hX => (C.block k (Nat.lt_of_lt_of_le hk s1) (fun hf' => by
    rcases hX1 k (o.fx k hf') with h1 | h1
    · exact hX h1
    · omega)).trans (C0.block k hk hX)⟩
  have CB : Ch X w W := ⟨hW.os.trans (C3.os.trans CA.os), hW.tape.trans (C3.tape.trans CA.tape), hW.output.trans (C3.output.trans CA.output), by omega, fun k hk hX => (hW.block k (by omega)).trans ((C3.block k (by omega) (fun e => by have := hat k e; omega)).trans (CA.block k hk hX))⟩
  have CC : Ch X w (w4.setCell ⟨lb, 3, none⟩ sl') := ⟨C6.os.trans CB.os, C6.tape.trans CB.tape, C6.output.trans CB.output, Nat.le_trans CB.size C6.size, fun k hk hX => (C6.block k (Nat.lt_of_lt_of_le hk CB.size) (fun hf' => by
    rcases hX1 k (o.lx k hf') with h1 | h1
    · exact hX h1
    · omega)).trans (CB.block k hk hX)⟩
  have hlb : lb < w.heap.size → X lb := fun hlt => (hX1 lb (o.lx lb (.inl rfl))).elim id (fun h1 => by omega)
  refine Ls.put (L7.ch C8 (fun x hx e => W7.not_ld L7 (.inl e) hx)) e' (W7.own C8 rfl rfl (six4 W7.hd _)) ok' ((CC.trans (Ch.of_below hb7)).setCell _ _ hlb) (fun x hx => ?_) ?_
  · rcases hf x hx with h1 | h1
    · exact hX1 x (o.fx x h1)
    · exact .inr (by omega)
  · rintro x (hx | hx | ⟨u, hu, hx⟩)
    · exact hX1 x (o.lx x (.inl hx))
    · rcases hb x hx with h1 | h1
      · exact hX1 x (o.lx x (.inr (.inl h1)))
      · exact .inr (by omega)
    · rcases List.mem_append.1 hu with hu | hu
      · exact hX1 x (o.lx x (.inr (.inr ⟨u, hu, hx⟩)))
      · rcases List.mem_singleton.1 hu with rfl
        rcases hx with hx | hx
        · have hx : x = g := hx
          exact .inr (by omega)
        · have := nb x hx
          exact .inr (by omega)
end Go.Proofs.YteifkkceldlfnaaGreatDoor
namespace Go.Proofs.YteifkkceldlfnaaGreatDoor
open Go.RowKit Go.Shelf Go.Sort
open Go.Lib hiding intOf
variable {w w' w1 w2 w3 wr : World} {B lb d g n : Nat} {lg lg' : Lg} {vs vs' xs : List Sv} {sl sl' rv : Value} {X Y : Nat → Prop} {st st' : Ab} {pre : ByteArray} {v : Sv} {es : List Le} {mo : Option Nat} {l : List (List UInt8)}

theorem room_no (h : Lo X w B lb d lg st es mo vs sl) (hv : Gv B w) (hX : ∀ x, X x → B ≤ x) (hB : B ≤ w.heap.size) (hno : (gRoom lg st).1 ≠ 0) : Calls Tryz.prog 60 #[.pointer (some ⟨lb, 0, none⟩)] w fun e w' =>
    e = .returned (.tuple #[.pointer none, .int .i64 (gRoom lg st).1]) ∧ Lft X w B lb d (gRoom lg st).2.2.1 (gRoom lg st).2.2.2 w' :=
  (room_any h hv hX hB).mono fun e w' ⟨pv, he, hr⟩ => by
    rcases hr with ⟨_, rfl, h2⟩ | ⟨h1, _⟩ | ⟨h1, _⟩
    · exact ⟨he, h2⟩
    · exact absurd h1 hno
    · exact absurd h1 hno
theorem room_old {s : Sg} (h : Lo X w B lb d lg st es mo vs sl) (hv : Gv B w) (hX : ∀ x, X x → B ≤ x) (hB : B ≤ w.heap.size) (hno : (gRoom lg st).1 = 0) (hs : (gRoom lg st).2.1 = some s) : Calls Tryz.prog 60 #[.pointer (some ⟨lb, 0, none⟩)] w fun e w' =>
    ∃ es mo xs v sl, e = .returned (.tuple #[.pointer (some ⟨v.g, 0, none⟩), .int .i64 0]) ∧ v.sg = s ∧ Lo X w' B lb d lg st es mo (xs ++ [v]) sl ∧ (gRoom lg st).2.2 = (lg, st) ∧ Ch X w w' :=
  (room_any h hv hX hB).mono fun e w' ⟨pv, he, hr⟩ => by
    rcases hr with ⟨h1, _⟩ | ⟨h1, ⟨es', mo', xs, v, sl', h2, rfl, h3, h4⟩, h5⟩ | ⟨h1, h2, _⟩
    · exact absurd hno h1
    · rw [hno] at he
      exact ⟨es', mo', xs, v, sl', he, Option.some.inj (h2.symm.trans hs), h3, h4, h5⟩
    · rw [hs] at h2; cases h2
theorem room_new (h : Lo X w B lb d lg st es mo vs sl) (hv : Gv B w) (hX : ∀ x, X x → B ≤ x) (hB : B ≤ w.heap.size) (hno : (gRoom lg st).1 = 0) (hs : (gRoom lg st).2.1 = none) : Calls Tryz.prog 60 #[.pointer (some ⟨lb, 0, none⟩)] w fun e w' =>
    ∃ es mo vs sl g, e = .returned (.tuple #[.pointer (some ⟨g, 0, none⟩), .int .i64 0]) ∧ Lo (fun x => X x ∨ w.heap.size ≤ x) w' B lb d (gRoom lg st).2.2.1 (gRoom lg st).2.2.2 es mo vs sl ∧ Sw w' B lg.pre (fresh lg.next g) ∧ w.heap.size ≤ g ∧ ¬ lfoot lb sl vs g ∧ Ch X w w' :=
  (room_any h hv hX hB).mono fun e w' ⟨pv, he, hr⟩ => by
    rcases hr with ⟨h1, _⟩ | ⟨h1, ⟨es', mo', xs, v, sl', h2, _⟩, _⟩ | ⟨h1, h2, es', mo', vs', sl', g, rfl, h3⟩
    · exact absurd hno h1
    · rw [hs] at h2; cases h2
    · rw [hno] at he
      exact ⟨es', mo', vs', sl', g, he, h3⟩
theorem dapp (o : Lo X w B lb d lg st es mo vs sl) (k s : ByteArray) (hz : k.size ≤ 9223372036854775807) : Calls Tryz.prog 20 #[.pointer (some ⟨d, 0, none⟩), .string k, .string s] w fun e w' => e = .returned (.int .i64 (aApp st k s).1) ∧ Did w B d es mo w' (aApp st k s).2 := by
  have := Append_any o.ld k s hz (Nat.le_of_lt (Nat.lt_of_le_of_lt o.ld.low.1 o.ld.lt))
  rw [o.fl] at this
  exact this
theorem Lo.drewN (h : Lo X w B lb d lg st es mo vs sl) (q : Nat) : Lo X (w.drewN q) B lb d lg st es mo vs sl := h.below (below_drewN' (Below.refl _ w) q)
/-- the disk refused -/
theorem Lo.refused {X1 : Nat → Prop} (o : Lo X1 w1 B lb d lg st es mo vs sl) (hX1 : ∀ x, X1 x → X x ∨ w.heap.size ≤ x) (C0 : Ch X w w1) (D : Did w1 B d es mo w2 st') : Lft X w B lb d lg st' w2 := by
  have W2 := o.lw.did (st := st) o.ld D
  obtain ⟨es', mo', L', e', C, hf⟩ := D
  have s1 := C0.size
  refine Ls.put L' e' W2 o.ok ⟨C.os.trans C0.os, C.tape.trans C0.tape, C.output.trans C0.output, Nat.le_trans s1 C.size, fun k hk hX => (C.block k (Nat.lt_of_lt_of_le hk s1) (fun hf' => by
    rcases hX1 k (o.fx k hf') with h1 | h1
    · exact hX h1
    · omega)).trans (C0.block k hk hX)⟩ (fun x hx => ?_) (fun x hx => hX1 x (o.lx x hx))
  rcases hf x hx with h1 | h1
  · exact hX1 x (o.fx x h1)
  · exact .inr (by omega)
theorem gApp_no (h : gNo lg l ≠ 0) : gAppend lg st l = ((0, gNo lg l), lg, st) := by unfold gAppend; rw [if_pos h]
theorem gApp_room (h : gNo lg l = 0) (h1 : (gRoom lg st).1 ≠ 0) : gAppend lg st l = ((0, (gRoom lg st).1), (gRoom lg st).2.2) := by unfold gAppend; rw [if_neg (by simpa using h), if_pos h1]
theorem gApp_bad (h : gNo lg l = 0) (h1 : (gRoom lg st).1 = 0) (h2 : (aApp (gRoom lg st).2.2.2 (gName lg.pre (gRoom lg st).2.1 lg.next) (S (bfr lg.next l))).1 ≠ 0) :
    gAppend lg st l = ((0, (aApp (gRoom lg st).2.2.2 (gName lg.pre (gRoom lg st).2.1 lg.next) (S (bfr lg.next l))).1), (gRoom lg st).2.2.1, (aApp (gRoom lg st).2.2.2 (gName lg.pre (gRoom lg st).2.1 lg.next) (S (bfr lg.next l))).2) := by
  unfold gAppend
  rw [if_neg (by simpa using h), if_neg (by simpa using h1)]
  simp only
  rw [if_pos h2]
theorem gApp_ok (h : gNo lg l = 0) (h1 : (gRoom lg st).1 = 0) (h2 : (aApp (gRoom lg st).2.2.2 (gName lg.pre (gRoom lg st).2.1 lg.next) (S (bfr lg.next l))).1 = 0) :
    gAppend lg st l = ((lg.next, 0), { (gRoom lg st).2.2.1 with segs := segsPut lg.segs (gRoom lg st).2.1 lg.next l (bfr lg.next l).length, next := lg.next + l.length }, (aApp (gRoom lg st).2.2.2 (gName lg.pre (gRoom lg st).2.1 lg.next) (S (bfr lg.next l))).2) := by
  unfold gAppend
  rw [if_neg (by simpa using h), if_neg (by simpa using h1)]
  simp only
  rw [if_neg (by simpa using h2)]
theorem logEql (g : Nat) (W : World) : (binOp .eql 28 (.pointer (some ⟨g, 0, none⟩)) (.pointer none)).run Tryz.prog W = .ok (.bool false) W := by kernel_rfl
set_option maxRecDepth 100000 in
set_option maxHeartbeats 4000000 in
/-- a batch that is refused ahead of the disk -/
theorem App_no {av : Value} (h : Ls X w B lb d lg st) (ha : Strs w av l) (hl : l.length ≤ 9223372036854775807) (hno : gNo lg l ≠ 0) : Calls Tryz.prog 24 #[.pointer (some ⟨lb, 0, none⟩), av] w fun e w' =>
    e = .returned (.tuple #[.int .u64 0, .int .i64 (gNo lg l)]) ∧ Below w.heap.size w w' := by
  have hq := logEql lb
  have hB := isBatch_any ha hl
  obtain ⟨es, mo, vs, sl, o⟩ := h.lo
  have c4 := o.lw.c4
  have hn := o.ok.next.2
  have hnx : lg.next < 18446744073709551616 := by omega
  unfold gNo at hno ⊢
  cases hb : isB l with
  | false =>
    rw [hb] at hB
    rw [if_pos rfl]
    obtain ⟨a, c, rfl, -⟩ := ha
    clear o h hno
    go_enter Tryz.func24, Tryz.ntmps24
    go_wp2_with (go_at_call 58; refine hB.mono ?_; rintro e w1 ⟨rfl, q, rfl⟩)
    go_ret2
    exact ⟨rfl, below_drewN' (Below.refl _ w) q⟩
  | true =>
    rw [hb] at hB hno
    simp only [Bool.true_eq_false, if_false] at hno ⊢
    have hlen := (isB_iff.1 hb).1.2
    have hP := fun q => putBatch_any hnx (ha.below (below_drewN' (Below.refl _ w) q) (Nat.le_refl _)) hb
    have w1' : IntKind.u64.wrap (l.length : Int) = (l.length : Int) := by rw [IntKind.wrap_u64]; omega
    have w2' : IntKind.u64.wrap ((lg.next : Int) + (l.length : Int)) = (lg.next : Int) + (l.length : Int) := by rw [IntKind.wrap_u64]; omega
    obtain ⟨a, c, rfl, -⟩ := ha
    by_cases h1 : 1099511627777 < lg.next + l.length
    · rw [if_pos h1]
      have h1' : (1099511627777 : Int) < (lg.next : Int) + (l.length : Int) := by omega
      clear o h hno hP h1
      go_enter Tryz.func24, Tryz.ntmps24
      go_wp2_with (go_at_call 58; refine hB.mono ?_; rintro e w1 ⟨rfl, q, rfl⟩)
      go_ret2
      exact ⟨rfl, below_drewN' (Below.refl _ w) q⟩
    · rw [if_neg h1] at hno ⊢
      have h1' : ¬ (1099511627777 : Int) < (lg.next : Int) + (l.length : Int) := by omega
      by_cases h2 : 65536 < (lod lg.next l).length
      · simp only [if_pos h2] at hP ⊢
        clear o h hno h1
        go_enter Tryz.func24, Tryz.ntmps24
        go_wp2_with (first
          | (go_at_call 58; refine hB.mono ?_; rintro e w1 ⟨rfl, q, rfl⟩)
          | (go_at_call 59; refine (hP _).mono ?_; rintro e w2 ⟨rfl, hb2⟩; have HB2 : Hid _ := hb2; clear hb2))
        go_ret2
        exact ⟨rfl, (below_drewN' (Below.refl _ w) q).trans HB2.out⟩
      · rw [if_neg h2] at hno
        exact absurd rfl hno
end Go.Proofs.YteifkkceldlfnaaGreatDoor
namespace Go.Proofs.YteifkkceldlfnaaGreatDoor
open Go.RowKit Go.Shelf Go.Sort
open Go.Lib hiding intOf
variable {w w' w1 w2 w3 wr : World} {B lb d g n : Nat} {lg lg' : Lg} {vs vs' xs : List Sv} {sl sl' rv : Value} {X Y : Nat → Prop} {st st' : Ab} {pre : ByteArray} {v : Sv} {es : List Le} {mo : Option Nat} {l : List (List UInt8)}

theorem infoSeg : ∃ j, Tryz.prog.info? 113 = some j ∧ j.size ≠ 0 := by
  cases h : Tryz.prog.info? 113 with
  | none => exact absurd (show (Tryz.prog.info? 113).isSome = true by kernel_rfl) (by rw [h]; decide)
  | some j => exact ⟨j, rfl, by have := (show (Tryz.prog.info? 113).map (·.size) = some 4 by kernel_rfl); rw [h] at this; simp at this; omega⟩
theorem ptrSame (a : Addr) (W : World) : (binOp .neq 83 (.pointer (some a)) (.pointer (some a))).run Tryz.prog W = .ok (.bool false) W := by
  obtain ⟨j, hj, _⟩ := infoSeg
  have h : ∀ d : Nat, (Op.equalIn (d + 1) 83 (.pointer (some a)) (.pointer (some a))).run Tryz.prog W = .ok true W := fun d => by
    simp [Op.equalIn, run_underlying Tryz.underlying83, sizeOf, typeInfo, hj, run_sameAddr_same]
  simp only [binOp]
  simp [Op.equal, Op.maxDepth, h 9999]
theorem ptrDiff {a b : Addr} {W : World} {ca cb : Array Value} {ta tb : TypeId} (hne : a ≠ b) (ha : W.heap[a.block]? = some (.cells ca ta (0, 0))) (hb : W.heap[b.block]? = some (.cells cb tb (0, 0))) : (binOp .neq 83 (.pointer (some a)) (.pointer (some b))).run Tryz.prog W = .ok (.bool true) W := by
  obtain ⟨j, hj, hsz⟩ := infoSeg
  have h : ∀ d : Nat, (Op.equalIn (d + 1) 83 (.pointer (some a)) (.pointer (some b))).run Tryz.prog W = .ok false W := fun d => by
    simp [Op.equalIn, run_underlying Tryz.underlying83, sizeOf, typeInfo, hj, hsz, run_sameAddr_other W hne ha hb]
  simp only [binOp]
  simp [Op.equal, Op.maxDepth, h 9999]
theorem Sw.did {p : Int} {off : Bool} (h : Sw w B pre v) (L : Ld w B d es p off mo) (D : Did w B d es mo w' st') : Sw w' B pre v := by
  obtain ⟨es', mo', L', e, C, hn⟩ := D
  exact h.ch C (fun x hx => h.not_ld L hx)
/-- the road to the disk: a batch, and its frame -/
theorem road {av : Value} (h : Ls X w B lb d lg st) (ha : Strs w av l) (hl : l.length ≤ 9223372036854775807) (hno : gNo lg l = 0) :
    (Calls Tryz.prog 58 #[av] w fun e w' => e = .returned (.bool true) ∧ ∃ q, w' = w.drewN q) ∧
    (∀ q, Calls Tryz.prog 59 #[.int .u64 (lg.next : Int), av] (w.drewN q) fun e w' => e = .returned (.tuple #[.string (S (bfr lg.next l)), .int .i64 0]) ∧ Below w.heap.size w w') ∧
    IntKind.u64.wrap (l.length : Int) = (l.length : Int) ∧ IntKind.u64.wrap ((lg.next : Int) + (l.length : Int)) = (lg.next : Int) + (l.length : Int) ∧ ¬ (1099511627777 : Int) < (lg.next : Int) + (l.length : Int) ∧ isB l = true ∧ l.length ≤ 256 ∧ (bfr lg.next l).length ≤ 65551 := by
  obtain ⟨h1, h2, h3⟩ := gNo_zero hno
  have hn := h.ok.next.2
  have hlen := (isB_iff.1 h1).1.2
  have hB := isBatch_any ha hl
  rw [h1] at hB
  refine ⟨hB, fun q => ?_, by rw [IntKind.wrap_u64]; omega, by rw [IntKind.wrap_u64]; omega, by omega, h1, hlen, (frm_len 1 _ h3).2⟩
  have := putBatch_any (n := lg.next) (by omega) (ha.below (below_drewN' (Below.refl _ w) q) (Nat.le_refl _)) h1
  rw [if_neg (by omega)] at this
  exact this.mono fun _ _ x => ⟨x.1, (below_drewN' (Below.refl _ w) q).trans x.2⟩
set_option maxRecDepth 100000 in
set_option maxHeartbeats 4000000 in
theorem App_room {av : Value} (h : Ls X w B lb d lg st) (hv : Gv B w) (hX : ∀ x, X x → B ≤ x) (ha : Strs w av l) (hl : l.length ≤ 9223372036854775807) (hno : gNo lg l = 0) (hr : (gRoom lg st).1 ≠ 0) : Calls Tryz.prog 24 #[.pointer (some ⟨lb, 0, none⟩), av] w fun e w' =>
    e = .returned (.tuple #[.int .u64 0, .int .i64 (gRoom lg st).1]) ∧ Lft X w B lb d (gRoom lg st).2.2.1 (gRoom lg st).2.2.2 w' := by
  have hq := logEql lb
  obtain ⟨cB, cP, w1', w2', h1', hb, hlen, hbf⟩ := road h ha hl hno
  obtain ⟨es, mo, vs, sl, o⟩ := h.lo
  have hBw := h.base.1
  have c4 := o.lw.c4
  have cR := fun W (hW : Below w.heap.size w W) => room_no (o.below hW) (hv.below (hW.mono hBw)) hX (Nat.le_trans hBw hW.size) hr
  have hbe : ((gRoom lg st).1 != 0) = true := by simpa using hr
  obtain ⟨a, c, rfl, -⟩ := ha
  clear o h hno hv
  generalize gRoom lg st = r at *
  go_enter Tryz.func24, Tryz.ntmps24
  go_wp2_with (first
    | (go_at_call 58; refine cB.mono ?_; rintro e w1 ⟨rfl, q, rfl⟩)
    | (go_at_call 59; refine (cP _).mono ?_; rintro e w2 ⟨rfl, hb2⟩; have HB2 : Hid (Below w.heap.size w w2) := hb2; clear hb2)
    | (go_at_call 60; refine (cR _ HB2.out).mono ?_; rintro e w3 ⟨rfl, h3⟩; have H3 : Hid _ := h3; clear h3))
  go_ret2
  exact ⟨rfl, Lft.widen H3.out (Ch.of_below HB2.out)⟩
theorem hash_ok (lg : Lg) (l : List (List UInt8)) (h : Ok lg) {s : Sg} {xs : List Sg} (hs : lg.segs = xs ++ [s]) : (s.more l n).next = lg.next + l.length := by
  have := h.cn.last s (by rw [hs]; simp)
  unfold Sg.next Sg.more at *
  simp only [List.length_append]
  omega
set_option maxRecDepth 100000 in
set_option maxHeartbeats 8000000 in
theorem App_old {av : Value} {s : Sg} (h : Ls X w B lb d lg st) (hv : Gv B w) (hX : ∀ x, X x → B ≤ x) (ha : Strs w av l) (hab : Offs X av l) (hl : l.length ≤ 9223372036854775807) (hno : gNo lg l = 0) (hr : (gRoom lg st).1 = 0) (hs : (gRoom lg st).2.1 = some s) : Calls Tryz.prog 24 #[.pointer (some ⟨lb, 0, none⟩), av] w fun e w' =>
    e = .returned (.tuple #[.int .u64 ((gAppend lg st l).1.1 : Int), .int .i64 (gAppend lg st l).1.2]) ∧ Lft X w B lb d (gAppend lg st l).2.1 (gAppend lg st l).2.2 w' := by
  have hq := logEql lb
  obtain ⟨cB, cP, w1', w2', h1', hb, hlen, hbf⟩ := road h ha hl hno
  obtain ⟨es, mo, vs, sl, o⟩ := h.lo
  have hBw := h.base.1
  have c4 := o.lw.c4
  have hrec : ∀ r ∈ l, r.length ≤ 281474976710656 := fun r hr' => by have := (isB_iff.1 hb).2 r hr'; omega
  have h0 := (gNo_zero hno).2.1
  have hl1 := (isB_iff.1 hb).1.1
  -- what the last segment is
  obtain ⟨xs0, hs0, hz0, hg0⟩ : ∃ xs0, lg.segs = xs0 ++ [s] ∧ s.size < lg.sz ∧ (gRoom lg st).2.2 = (lg, st) := by
    rcases room_split lg st with ⟨h1, h2⟩ | ⟨h1, h2, h3, h4⟩ | ⟨h1, h2, h3⟩ | ⟨h1, ⟨xs, s', h3, h5, h2⟩, h4⟩
    · exact absurd hr h1
    · rw [hs] at h2; cases h2
    · rw [hs] at h2; cases h2
    · rw [hs] at h2
      cases h2
      exact ⟨xs, h3, h5, h4⟩
  have cR := fun W (hW : Below w.heap.size w W) => room_old (o.below hW) (hv.below (hW.mono hBw)) hX (Nat.le_trans hBw hW.size) hr hs
  obtain ⟨no, st2, hap⟩ : ∃ no st2, aApp st (nam lg.pre s.first) (S (bfr lg.next l)) = (no, st2) := ⟨_, _, rfl⟩
  have hsg := o.ok.seg (s := s) (by rw [hs0]; simp)
  have hsz := o.ok.sz.2
  have hk := nam_size lg.pre s.first o.ok.pre.2 (by have := hsg.2.1; unfold Sg.next at this; omega)
  have hnx := hash_ok (n := (bfr lg.next l).length) lg l o.ok hs0
  have ok' := o.ok.putOld (n := (bfr lg.next l).length) hs0 hl1 h0 (by omega)
  have hS := S_size (bfr lg.next l)
  have HA : Hid (∀ W es mo vs sl, Lo X W B lb d lg st es mo vs sl → Calls Tryz.prog 20 #[.pointer (some ⟨d, 0, none⟩), .string (nam lg.pre s.first), .string (S (bfr lg.next l))] W fun e w' => e = .returned (.int .i64 no) ∧ Did W B d es mo w' st2) := fun W es mo vs sl o => by
    have := dapp o (nam lg.pre s.first) (S (bfr lg.next l)) (by omega)
    rw [hap] at this
    exact this
  by_cases hno' : no = 0
  · subst hno'
    rw [gApp_ok hno hr (by rw [hg0, hs]; simp only [gName]; rw [hap])]
    rw [hg0, hs]
    simp only [segsPut, gName, hap]
    rw [hs0, List.dropLast_concat]
    have HS : Hid (Strs w av l ∧ Offs X av l) := ⟨ha, hab⟩
    have HK : Hid (s.size < lg.sz ∧ lg.sz ≤ 65536 ∧ s.recs.length ≤ 1099511627776 ∧ ∀ r ∈ l, r.length ≤ 281474976710656) := ⟨hz0, hsz, hsg.2.2.1, hrec⟩
    have HN : Hid (lg.segs = xs0 ++ [s] ∧ (s.more l (bfr lg.next l).length).next = lg.next + l.length ∧ Ok { lg with segs := xs0 ++ [s.more l (bfr lg.next l).length], next := lg.next + l.length }) := ⟨hs0, hnx, ok'⟩
    have hps := ptrSame
    obtain ⟨bl, hbl⟩ : ∃ bl, (bfr lg.next l).length = bl := ⟨_, rfl⟩
    rw [hbl] at hS hbf HN ⊢
    obtain ⟨a, c, rfl, -⟩ := ha
    clear o h hno hv hap hnx ok' hz0 hs0 hg0 hr hs hab hrec hsg hsz
    go_enter Tryz.func24, Tryz.ntmps24
    go_wp2_with (first
      | (go_at_call 58; refine cB.mono ?_; rintro e w1 ⟨rfl, q, rfl⟩)
      | (go_at_call 59; refine (cP _).mono ?_; rintro e w2 ⟨rfl, hb2⟩; have HB2 : Hid (Below w.heap.size w w2) := hb2; clear hb2)
      | (go_at_call 60; refine (cR _ HB2.out).mono ?_; rintro e w3 ⟨es3, mo3, xs3, v3, sl3, rfl, hv3, o3, _, C3⟩; have m0 := o3.lw.c0; have m1 := (o3.lw.sw v3 (by simp)).c0; rw [hv3] at m1; have H3 : Hid (Lo X w3 B lb d lg st es3 mo3 (xs3 ++ [v3]) sl3 ∧ Ch X w2 w3) := ⟨o3, C3⟩; clear o3 C3))
    go_region_held3 (fun w' => w'.cell? ⟨lb, 0, none⟩ = some (.pointer (some ⟨d, 0, none⟩)) ∧ w'.cell? ⟨v3.g, 0, none⟩ = some (.string (nam lg.pre s.first)))
      (first | go_keep | exact ⟨k0, k1⟩)
      (first
        | (go_at_call 20; refine (HA.out _ _ _ _ _ (H3.out.1.drewN 1)).mono ?_; rintro e w4 ⟨rfl, D4⟩; (have W4 := H3.out.1.lw.did (st := st) H3.out.1.ld D4.drawn); have k0 := W4.c0; have k1 := (W4.sw v3 (by simp)).c0; rw [hv3] at k1; have H4 : Hid (Did w3 B d es3 mo3 w4 st2) := D4.drawn; clear D4 W4))
    have W4 := H3.out.1.lw.did (st := st) H3.out.1.ld H4.out
    have C4 : Ch X w3 w4 := by
      obtain ⟨_, _, _, _, C, _⟩ := H4.out
      exact C.mono (fun x _ hx => H3.out.1.fx x hx)
    have B4 : Ch X w w4 := (Ch.of_below HB2.out).trans (H3.out.2.trans C4)
    have hB4 : B ≤ w4.heap.size := Nat.le_trans hBw B4.size
    have S4 := W4.sw v3 (by simp)
    have cA := add_any (n := bl) S4 (HS.out.1.offs HS.out.2 (B4.mono (fun _ _ hx => .inl hx))) (fun h0 b o m c e hx => HS.out.2 h0 b o m c e (H3.out.1.lx b (.inr (.inr ⟨v3, by simp, hx⟩)))) hB4 (by rw [hv3]; have := HK.out.2.2.1; omega) HK.out.2.2.2 (by rw [hv3]; have := HK.out.1; have := HK.out.2.1; omega)
    clear W4 S4
    obtain ⟨hx3, hcnt⟩ : (xs3.map Sv.sg = xs0) ∧ xs3.length < 4611686018427387904 := by
      have h1 := H3.out.1.seg.1
      rw [HN.out.1] at h1
      exact ⟨(List.append_inj' h1 rfl).1.symm, H3.out.1.count⟩
    have HT : Hid (∀ w5 rv5, Sw w5 B lg.pre (v3.more l bl rv5) → Ch (fun x => v3.at x) w4 w5 → (∀ x, rv5.ownBlock = some x → v3.rv.ownBlock = some x ∨ w4.heap.size ≤ x) →
        Lw w5 B lb d { lg with segs := (xs3 ++ [v3.more l bl rv5]).map Sv.sg } (xs3 ++ [v3.more l bl rv5]) sl3 ∧ ∀ q, Lft X w B lb d { lg with segs := xs0 ++ [s.more l bl], next := lg.next + l.length } st2 ((w5.drewN q).setCell ⟨lb, 4, none⟩ (.int .u64 ((lg.next + l.length : Nat) : Int)))) := fun w5 rv5 a1 a2 a3 => by
      have e1 : (xs3 ++ [v3.more l bl rv5]).map Sv.sg = xs0 ++ [s.more l bl] := by simp [hx3, hv3]
      have e2 : (v3.sg.more l bl).next = lg.next + l.length := by rw [hv3]; exact HN.out.2.1
      have := Lo.turned (w := w) H3.out.1 ((Ch.of_below HB2.out).trans H3.out.2) H4.out a1 a2 a3 (by rw [e1, e2]; exact HN.out.2.2)
      rw [e1, e2] at this
      rw [e1]
      exact this
    have hn3 : (v3.sg.more l bl).next = lg.next + l.length := by rw [hv3]; exact HN.out.2.1
    have hle : lg.next + l.length ≤ 9223372036854775807 := by omega
    clear C4 B4
    go_wp2_with (first
      | (go_at_call 61; refine cA.mono ?_; rintro e w5 ⟨⟨x5, rfl⟩, rv5, S5, C5, nb5⟩; obtain ⟨W5, F5⟩ := HT.out w5 rv5 S5 C5 nb5; have cL := last_some W5 hcnt; (have cN := fun q => next_any (S5.drewN q) (show (v3.sg.more l bl).next ≤ 9223372036854775807 by rw [hn3]; exact hle)); simp only [hn3] at cN; have n4 := W5.c4; have f4 := W5.fro 4; simp only at n4; have HF : Hid _ := F5; clear S5 C5 nb5 W5 F5)
      | (go_at_call 32; refine cL.mono ?_; rintro e w6 ⟨rfl, q6, rfl⟩)
      | (go_at_call 34; refine (cN _).mono ?_; rintro e w7 ⟨rfl, q7, rfl⟩))
    go_ret2
    refine ⟨rfl, ?_⟩
    have := HF.out (q6 + q7)
    rw [show ((lg.next + l.length : Nat) : Int) = (lg.next : Int) + (l.length : Int) by omega] at this
    exact this
  · rw [gApp_bad hno hr (by rw [hg0, hs]; simp only [gName]; rw [hap]; exact hno')]
    rw [hg0, hs]
    simp only [gName, hap]
    have hbe : (no != 0) = true := by simpa using hno'
    obtain ⟨a, c, rfl, -⟩ := ha
    clear o h hno hv hap hnx ok' hz0 hs0 hg0 hr hs
    go_enter Tryz.func24, Tryz.ntmps24
    go_wp2_with (first
      | (go_at_call 58; refine cB.mono ?_; rintro e w1 ⟨rfl, q, rfl⟩)
      | (go_at_call 59; refine (cP _).mono ?_; rintro e w2 ⟨rfl, hb2⟩; have HB2 : Hid (Below w.heap.size w w2) := hb2; clear hb2)
      | (go_at_call 60; refine (cR _ HB2.out).mono ?_; rintro e w3 ⟨es3, mo3, xs3, v3, sl3, rfl, hv3, o3, _, C3⟩; have m0 := o3.lw.c0; have m1 := (o3.lw.sw v3 (by simp)).c0; rw [hv3] at m1; have H3 : Hid (Lo X w3 B lb d lg st es3 mo3 (xs3 ++ [v3]) sl3 ∧ Ch X w2 w3) := ⟨o3, C3⟩; clear o3 C3))
    go_region_held3 (fun w' => w'.cell? ⟨lb, 0, none⟩ = some (.pointer (some ⟨d, 0, none⟩)) ∧ w'.cell? ⟨v3.g, 0, none⟩ = some (.string (nam lg.pre s.first)))
      (first | go_keep | exact ⟨k0, k1⟩)
      (first
        | (go_at_call 20; refine (HA.out _ _ _ _ _ (H3.out.1.drewN 1)).mono ?_; rintro e w4 ⟨rfl, D4⟩; (have W4 := H3.out.1.lw.did (st := st) H3.out.1.ld D4.drawn); have k0 := W4.c0; have k1 := (W4.sw v3 (by simp)).c0; rw [hv3] at k1; have H4 : Hid (Did w3 B d es3 mo3 w4 st2) := D4.drawn; clear D4 W4))
    go_wp2
    go_ret2
    exact ⟨rfl, Lo.refused H3.out.1 (fun x hx => .inl hx) ((Ch.of_below HB2.out).trans H3.out.2) H4.out⟩
theorem infoPtr : (Tryz.prog.info? 83).map (fun i => (i.zero, i.size, i.bytes)) = some (some (.pointer none), 1, 8) := by kernel_rfl
set_option maxRecDepth 100000 in
set_option maxHeartbeats 8000000 in
theorem App_new {av : Value} (h : Ls X w B lb d lg st) (hv : Gv B w) (hX : ∀ x, X x → B ≤ x) (ha : Strs w av l) (hab : Offs X av l) (hl : l.length ≤ 9223372036854775807) (hno : gNo lg l = 0) (hr : (gRoom lg st).1 = 0) (hs : (gRoom lg st).2.1 = none) : Calls Tryz.prog 24 #[.pointer (some ⟨lb, 0, none⟩), av] w fun e w' =>
    e = .returned (.tuple #[.int .u64 ((gAppend lg st l).1.1 : Int), .int .i64 (gAppend lg st l).1.2]) ∧ Lft X w B lb d (gAppend lg st l).2.1 (gAppend lg st l).2.2 w' := by
  have hq := logEql lb
  obtain ⟨i0, hi0, hz0, hz1, hz2⟩ := info_parts infoPtr
  obtain ⟨cB, cP, w1', w2', h1', hb, hlen, hbf⟩ := road h ha hl hno
  obtain ⟨es, mo, vs, sl, o⟩ := h.lo
  have hBw := h.base.1
  have c4 := o.lw.c4
  have hrec : ∀ r ∈ l, r.length ≤ 281474976710656 := fun r hr' => by have := (isB_iff.1 hb).2 r hr'; omega
  have h0 := (gNo_zero hno).2.1
  have hl1 := (isB_iff.1 hb).1.1
  -- the log behind room
  obtain ⟨lg1, st1, hg1, hp1, hs1, hn1, ok1⟩ : ∃ lg1 st1, (gRoom lg st).2.2 = (lg1, st1) ∧ lg1.pre = lg.pre ∧ lg1.segs = lg.segs ∧ lg1.next = lg.next ∧ Ok { lg1 with segs := lg1.segs ++ [⟨lg1.next, l, (bfr lg.next l).length⟩], next := lg.next + l.length } := by
    rcases room_split lg st with ⟨h1, h2⟩ | ⟨h1, h2, h3, h4⟩ | ⟨h1, h2, ⟨xs, s, h3, h5, _⟩, h4⟩ | ⟨h1, ⟨xs, s', h3, h5, h2⟩, h4⟩
    · exact absurd hr h1
    · exact ⟨lg, st, h4, rfl, rfl, rfl, o.ok.putNew (fun s hs => by rw [h3] at hs; cases hs) hl1 h0 (by omega)⟩
    · refine ⟨_, _, Prod.ext h4 rfl, rfl, rfl, rfl, ?_⟩
      exact o.ok.sureNext.putNew (o.ok.lastFull h3 h5) hl1 h0 (by omega)
    · rw [hs] at h2; cases h2
  have cR := fun W (hW : Below w.heap.size w W) => room_new (o.below hW) (hv.below (hW.mono hBw)) hX (Nat.le_trans hBw hW.size) hr hs
  rw [hg1] at cR
  obtain ⟨no, st2, hap⟩ : ∃ no st2, aApp st1 (nam lg.pre lg.next) (S (bfr lg.next l)) = (no, st2) := ⟨_, _, rfl⟩
  have hn := o.ok.next.2
  have hk := nam_size lg.pre lg.next o.ok.pre.2 (by omega)
  have hS := S_size (bfr lg.next l)
  have HA : Hid (∀ X W es mo vs sl, Lo X W B lb d lg1 st1 es mo vs sl → Calls Tryz.prog 20 #[.pointer (some ⟨d, 0, none⟩), .string (nam lg.pre lg.next), .string (S (bfr lg.next l))] W fun e w' => e = .returned (.int .i64 no) ∧ Did W B d es mo w' st2) := fun X W es mo vs sl o => by
    have := dapp o (nam lg.pre lg.next) (S (bfr lg.next l)) (by omega)
    rw [hap] at this
    exact this
  by_cases hno' : no = 0
  · subst hno'
    rw [gApp_ok hno hr (by rw [hg1, hs]; simp only [gName]; rw [hap])]
    rw [hg1, hs]
    simp only [segsPut, gName, hap]
    have HS : Hid (Strs w av l ∧ Offs X av l) := ⟨ha, hab⟩
    have HK : Hid (∀ r ∈ l, r.length ≤ 281474976710656) := hrec
    obtain ⟨bl, hbl⟩ : ∃ bl, (bfr lg.next l).length = bl := ⟨_, rfl⟩
    rw [hbl] at hS hbf ok1 ⊢
    have HN : Hid (lg1.pre = lg.pre ∧ lg1.segs = lg.segs ∧ lg1.next = lg.next ∧ Ok { lg1 with segs := lg1.segs ++ [⟨lg1.next, l, bl⟩], next := lg.next + l.length }) := ⟨hp1, hs1, hn1, ok1⟩
    obtain ⟨a, c, rfl, -⟩ := ha
    clear o h hno hv hap hr hs hab hrec hg1 ok1 hs1
    go_enter Tryz.func24, Tryz.ntmps24
    go_wp2_with (first
      | (go_at_call 58; refine cB.mono ?_; rintro e w1 ⟨rfl, q, rfl⟩)
      | (go_at_call 59; refine (cP _).mono ?_; rintro e w2 ⟨rfl, hb2⟩; have HB2 : Hid (Below w.heap.size w w2) := hb2; clear hb2)
      | (go_at_call 60; refine (cR _ HB2.out).mono ?_; rintro e w3 ⟨es3, mo3, vs3, sl3, g3, rfl, o3, S3, hg3, hng3, C3⟩; have m0 := o3.lw.c0; have m1 := S3.c0; simp only [fresh] at m1; have H3 : Hid (Lo (fun x => X x ∨ w2.heap.size ≤ x) w3 B lb d lg1 st1 es3 mo3 vs3 sl3 ∧ Sw w3 B lg.pre (fresh lg.next g3) ∧ w2.heap.size ≤ g3 ∧ ¬ lfoot lb sl3 vs3 g3 ∧ Ch X w2 w3) := ⟨o3, S3, hg3, hng3, C3⟩; clear o3 C3 S3 hg3 hng3))
    go_region_held3 (fun w' => w'.cell? ⟨lb, 0, none⟩ = some (.pointer (some ⟨d, 0, none⟩)) ∧ w'.cell? ⟨g3, 0, none⟩ = some (.string (nam lg.pre lg.next)))
      (first | go_keep | exact ⟨k0, k1⟩)
      (first
        | (go_at_call 20; refine (HA.out _ _ _ _ _ _ (H3.out.1.drewN 1)).mono ?_; rintro e w4 ⟨rfl, D4⟩; (have W4 := H3.out.1.lw.did (st := st1) H3.out.1.ld D4.drawn); have k0 := W4.c0; (have k1 := (Sw.did H3.out.2.1 H3.out.1.ld D4.drawn).c0); simp only [fresh] at k1; have H4 : Hid (Did w3 B d es3 mo3 w4 st2) := D4.drawn; clear D4 W4))
    obtain ⟨sa, sc, rfl, -⟩ := row_slice H3.out.1.lw.row
    have W4 := H3.out.1.lw.did (st := st1) H3.out.1.ld H4.out
    have S4 : Sw w4 B lg.pre (fresh lg.next g3) := H3.out.2.1.did H3.out.1.ld H4.out
    have C4 : Ch (fun x => X x ∨ w2.heap.size ≤ x) w3 w4 := by
      obtain ⟨_, _, _, _, C, _⟩ := H4.out
      exact C.mono (fun x _ hx => H3.out.1.fx x hx)
    have B4 : Ch (fun x => X x ∨ w.heap.size ≤ x) w w4 := (((Ch.of_below HB2.out).trans H3.out.2.2.2.2).mono (fun _ _ hx => .inl hx)).trans (C4.mono (fun x _ hx => hx.imp id (Nat.le_trans HB2.out.size)))
    have hB4 : B ≤ w4.heap.size := Nat.le_trans hBw B4.size
    have cA := add_any (n := bl) S4 (HS.out.1.offs HS.out.2 B4) (fun h0 b o m c e hx => by have h1 := HS.out.1.lt h0 e; have h2 := H3.out.2.2.1; have h3 := HB2.out.size; rcases hx with hx | hx; (have hx : b = g3 := hx; omega); cases hx) hB4 (by simp only [fresh, List.length_nil]; omega) HK.out (by simp only [fresh]; omega)
    have hcnt : vs3.length ≤ 1099511627778 := by rw [H3.out.1.lw.len]; exact H3.out.1.ok.count
    have hnx : ((fresh lg.next g3).sg.more l bl).next = lg.next + l.length := rfl
    have HT : Hid (∀ w5 rv5, Sw w5 B lg.pre ((fresh lg.next g3).more l bl rv5) → Ch (fun x => (fresh lg.next g3).at x) w4 w5 → (∀ x, rv5.ownBlock = some x → (fresh lg.next g3).rv.ownBlock = some x ∨ w4.heap.size ≤ x) →
        Lw w5 B lb d lg1 vs3 (.slice sa vs3.length sc) ∧ ∀ (W w7 : World) (sl4 : Value), Below w5.heap.size w5 W → W.grownBy w7 (Value.slice sa vs3.length sc).ownBlock → w7.ownsRow B 83 1 sl4 (vs3.length + 1) (vs3.map ptr ++ [.pointer (some ⟨g3, 0, none⟩)]) → (∀ x, sl4.ownBlock = some x → (Value.slice sa vs3.length sc).ownBlock = some x ∨ W.heap.size ≤ x) →
          w7.cell? ⟨lb, 3, none⟩ = some (.slice sa vs3.length sc) ∧ w7.frozen? ⟨lb, 3, none⟩ = false ∧ Sw (w7.setCell ⟨lb, 3, none⟩ sl4) B lg.pre ((fresh lg.next g3).more l bl rv5) ∧ (w7.setCell ⟨lb, 3, none⟩ sl4).cell? ⟨lb, 4, none⟩ = some (.int .u64 (lg.next : Int)) ∧ (w7.setCell ⟨lb, 3, none⟩ sl4).frozen? ⟨lb, 4, none⟩ = false ∧
          ∀ q, Lft X w B lb d { lg1 with segs := lg.segs ++ [⟨lg.next, l, bl⟩], next := lg.next + l.length } st2 (((w7.setCell ⟨lb, 3, none⟩ sl4).drewN q).setCell ⟨lb, 4, none⟩ (.int .u64 ((lg.next + l.length : Nat) : Int)))) := fun w5 rv5 a1 a2 a3 => by
      obtain ⟨n1, n2, n3, n4⟩ := HN.out
      have e1 : (vs3 ++ [(fresh lg.next g3).more l bl rv5]).map Sv.sg = lg.segs ++ [⟨lg.next, l, bl⟩] := by
        rw [List.map_append, H3.out.1.lw.segs, n2]
        show lg.segs ++ [⟨lg.next, [] ++ l, 0 + bl⟩] = _
        simp
      have := Lo.newed (w := w) (X := X) (w2 := w4) (w3 := w5) (st' := st2) (l := l) (n := bl) (rv := rv5) (g := g3) H3.out.1 (fun x hx => hx.imp id (Nat.le_trans HB2.out.size)) ((Ch.of_below HB2.out).trans H3.out.2.2.2.2) (by rw [n1, n3]; exact H3.out.2.1) (Nat.le_trans HB2.out.size H3.out.2.2.1) H3.out.2.2.2.1 H4.out (by rw [n1, n3]; exact a1) (by rw [n3]; exact a2) (fun x hx => (a3 x hx).elim (fun e => by cases e) id) (by
        rw [n3, e1]
        have := n4
        rw [n2, n3] at this
        exact this)
      rw [n3, e1, n1] at this
      refine ⟨this.1, fun W w7 sl4 b1 b2 b3 b4 => ?_⟩
      obtain ⟨c1, c2, c3, c4, c5⟩ := this.2 W w7 sl4 b1 b2 b3 b4
      refine ⟨c1, c2, c3, c4.c4, c4.fro 4, fun q => ?_⟩
      have h5 := c5 q
      rw [← n1] at h5
      exact h5
    have HL : Hid (∀ w5 rv5, Sw w5 B lg.pre ((fresh lg.next g3).more l bl rv5) → Lw w5 B lb d lg1 vs3 (.slice sa vs3.length sc) → Calls Tryz.prog 32 #[.pointer (some ⟨lb, 0, none⟩)] w5 fun e w' => ∃ pv, e = .returned pv ∧ (∃ q, w' = w5.drewN q) ∧ ∀ q, (binOp .neq 83 (.pointer (some ⟨g3, 0, none⟩)) pv).run Tryz.prog (w5.drewN q) = .ok (.bool true) (w5.drewN q)) := fun w5 rv5 a1 a2 => by
      rcases List.eq_nil_or_concat vs3 with hnil | ⟨ys, u, hcon⟩
      · rw [hnil] at a2
        exact (last_none a2).mono fun _ _ x => ⟨_, x.1, x.2, fun q => nilEql g3 _⟩
      · rw [List.concat_eq_append] at hcon
        have hu : u ∈ vs3 := by rw [hcon]; simp
        have hne : (⟨g3, 0, none⟩ : Addr) ≠ ⟨u.g, 0, none⟩ := fun e => by
          injection e with e
          exact H3.out.2.2.2.1 (.inr (.inr ⟨u, hu, .inl e⟩))
        have h3 := (a2.sw u hu).hd
        rw [hcon] at a2
        exact (last_some a2 (by rw [hcon] at hcnt; simp at hcnt; omega)).mono fun _ _ x => ⟨_, x.1, x.2, fun q => ptrDiff hne a1.hd h3⟩
    clear C4 B4 W4 S4
    go_wp2_with (first
      | (go_at_call 61; refine cA.mono ?_; rintro e w5 ⟨⟨x5, rfl⟩, rv5, S5, C5, nb5⟩; obtain ⟨W5, F5⟩ := HT.out w5 rv5 S5 C5 nb5; have cL := HL.out w5 rv5 S5 W5; have n3 := W5.c3; have R5 : Hid _ := W5.row; have HF : Hid _ := F5; have hs5 := Nat.le_trans hB4 C5.size; clear S5 C5 nb5 W5 F5)
      | (go_at_call 32; refine cL.mono ?_; rintro e w6 ⟨pv, rfl, ⟨q6, rfl⟩, hpv⟩; have hpv6 := hpv q6; (have hbw : Below w5.heap.size w5 ((w5.drewN q6).alloc (.cells #[.pointer (some ⟨g3, 0, none⟩)] 83)) := (below_drewN' (Below.refl _ w5) q6).alloc (Nat.le_refl _) _); (obtain ⟨sl4, w7, hrun, hrow, hgr, hown⟩ := row_append Tryz.underlying77 hi0 hz0 hz1 hz2 rfl (row_below' R5.out hbw) ⟨w5.heap.size, 0, none⟩ 1 1 [.pointer (some ⟨g3, 0, none⟩)] rfl (new_one (w5.drewN q6) w5.heap.size rfl _ _) (by simp [Value.oneCell']) (by unfold maxLen; omega) (by omega) (Nat.le_trans hs5 hbw.size) 77); (obtain ⟨c73, f73, S7, c74, f74, F7⟩ := HF.out _ w7 sl4 hbw hgr hrow hown); have cN := next_any S7 (show ((fresh lg.next g3).sg.more l bl).next ≤ 9223372036854775807 by rw [hnx]; omega); rw [hnx] at cN; obtain ⟨a7, c7, rfl, -⟩ := row_slice hrow; have HG : Hid _ := F7; clear hpv F7 S7 hrow hgr hown hbw)
      | (at_builtin; refine Lib.wpList_append_run _ rfl _ _ _ _ rfl _ _ rfl rfl _ _ hrun ?_)
      | (go_at_call 34; refine cN.mono ?_; rintro e w8 ⟨rfl, q8, rfl⟩))
    go_ret2
    refine ⟨rfl, ?_⟩
    have := HG.out q8
    rw [show ((lg.next + l.length : Nat) : Int) = (lg.next : Int) + (l.length : Int) by omega] at this
    exact this
  · rw [gApp_bad hno hr (by rw [hg1, hs]; simp only [gName]; rw [hap]; exact hno')]
    rw [hg1, hs]
    simp only [gName, hap]
    have hbe : (no != 0) = true := by simpa using hno'
    obtain ⟨a, c, rfl, -⟩ := ha
    clear o h hno hv hap hg1 hr hs ok1
    go_enter Tryz.func24, Tryz.ntmps24
    go_wp2_with (first
      | (go_at_call 58; refine cB.mono ?_; rintro e w1 ⟨rfl, q, rfl⟩)
      | (go_at_call 59; refine (cP _).mono ?_; rintro e w2 ⟨rfl, hb2⟩; have HB2 : Hid (Below w.heap.size w w2) := hb2; clear hb2)
      | (go_at_call 60; refine (cR _ HB2.out).mono ?_; rintro e w3 ⟨es3, mo3, vs3, sl3, g3, rfl, o3, S3, hg3, hng3, C3⟩; have m0 := o3.lw.c0; have m1 := S3.c0; simp only [fresh] at m1; have H3 : Hid (Lo (fun x => X x ∨ w2.heap.size ≤ x) w3 B lb d lg1 st1 es3 mo3 vs3 sl3 ∧ Sw w3 B lg.pre (fresh lg.next g3) ∧ w2.heap.size ≤ g3 ∧ ¬ lfoot lb sl3 vs3 g3 ∧ Ch X w2 w3) := ⟨o3, S3, hg3, hng3, C3⟩; clear o3 C3 S3 hg3 hng3))
    go_region_held3 (fun w' => w'.cell? ⟨lb, 0, none⟩ = some (.pointer (some ⟨d, 0, none⟩)) ∧ w'.cell? ⟨g3, 0, none⟩ = some (.string (nam lg.pre lg.next)))
      (first | go_keep | exact ⟨k0, k1⟩)
      (first
        | (go_at_call 20; refine (HA.out _ _ _ _ _ _ (H3.out.1.drewN 1)).mono ?_; rintro e w4 ⟨rfl, D4⟩; (have W4 := H3.out.1.lw.did (st := st1) H3.out.1.ld D4.drawn); have k0 := W4.c0; (have k1 := (Sw.did H3.out.2.1 H3.out.1.ld D4.drawn).c0); simp only [fresh] at k1; have H4 : Hid (Did w3 B d es3 mo3 w4 st2) := D4.drawn; clear D4 W4))
    go_wp2
    go_ret2
    exact ⟨rfl, Lo.refused H3.out.1 (fun x hx => hx.imp id (Nat.le_trans HB2.out.size)) ((Ch.of_below HB2.out).trans H3.out.2.2.2.2) H4.out⟩
end Go.Proofs.YteifkkceldlfnaaGreatDoor
namespace Go.Proofs.YteifkkceldlfnaaGreatDoor
open Go.RowKit Go.Shelf Go.Sort
open Go.Lib hiding intOf
variable {w w' w1 w2 w3 wr : World} {B lb d g n : Nat} {lg lg' : Lg} {vs vs' xs : List Sv} {sl sl' rv : Value} {X Y : Nat → Prop} {st st' : Ab} {pre : ByteArray} {v : Sv} {es : List Le} {mo : Option Nat} {l : List (List UInt8)}

theorem Ls.tight (h : Ls X w B lb d lg st) : Ls (fun x => X x ∧ x < w.heap.size) w B lb d lg st := by
  obtain ⟨es, mo, vs, sl, L, e, W, ok, h1, h2⟩ := h
  exact ⟨es, mo, vs, sl, L, e, W, ok, fun x hx => ⟨h1 x hx, (L.foot_lt hx).1⟩, fun x hx => ⟨h2 x hx, (W.foot_lt hx).1⟩⟩
theorem Lft.of_below (h : Ls X w B lb d lg st) (hb : Below w.heap.size w w') : Lft X w B lb d lg st w' := ⟨(h.below hb).mono (fun _ hx => .inl hx), Ch.of_below hb⟩
theorem gAppend_any {av : Value} (h : Ls X w B lb d lg st) (hv : Gv B w) (hX : ∀ x, X x → B ≤ x) (ha : Strs w av l) (hab : Offs X av l) (hl : l.length ≤ 9223372036854775807) : Calls Tryz.prog 24 #[.pointer (some ⟨lb, 0, none⟩), av] w fun e w' =>
    e = .returned (.tuple #[.int .u64 ((gAppend lg st l).1.1 : Int), .int .i64 (gAppend lg st l).1.2]) ∧ Lft X w B lb d (gAppend lg st l).2.1 (gAppend lg st l).2.2 w' := by
  by_cases h0 : gNo lg l = 0
  · by_cases h1 : (gRoom lg st).1 = 0
    · cases h2 : (gRoom lg st).2.1 with
      | none => exact App_new h hv hX ha hab hl h0 h1 h2
      | some s => exact App_old h hv hX ha hab hl h0 h1 h2
    · rw [gApp_room h0 h1]
      exact App_room h hv hX ha hl h0 h1
  · rw [gApp_no h0]
    exact (App_no h ha hl h0).mono fun _ _ x => ⟨x.1, Lft.of_below h x.2⟩
set_option maxHeartbeats 2000000 in
theorem gFlush_any (h : Ls X w B lb d lg st) : Calls Tryz.prog 25 #[.pointer (some ⟨lb, 0, none⟩)] w fun e w' =>
    e = .returned (.int .i64 (gFlush lg st).1) ∧ Lft X w B lb d (gFlush lg st).2.1 (gFlush lg st).2.2 w' := by
  have hq := logEql lb
  obtain ⟨es, mo, vs, sl, o⟩ := h.lo
  have c4 := o.lw.c4
  have c5 := o.lw.c5
  have hn := o.ok.next.2
  have hs := o.ok.sure
  unfold gFlush
  by_cases he : lg.sure = lg.next
  · rw [if_pos he]
    have H : Hid _ := fun q => Lft.of_below h (below_drewN' (Below.refl _ w) q)
    have H0 : Hid _ := Lft.of_below h (Below.refl _ w)
    clear o h
    rw [he] at c5
    go_enter Tryz.func25, Tryz.ntmps25
    go_wp2_with fail
    go_quiet (fail)
    go_wp2
    go_ret
    exact ⟨rfl, H.out _⟩
  · rw [if_neg he]
    cases hl : lg.segs.getLast? with
    | none => exact absurd (o.ok.none (List.getLast?_eq_none_iff.1 hl)) he
    | some s =>
      have hsy := fun q => sync_any (h.below (below_drewN' (Below.refl _ w) q)) hl
      simp only
      obtain ⟨no, st2, hr⟩ : ∃ no st2, aSync st (nam lg.pre s.first) = (no, st2) := ⟨_, _, rfl⟩
      rw [hr] at hsy ⊢
      have hne : ¬ (lg.sure : Int) = (lg.next : Int) := by omega
      have e1 : (if no ≠ 0 then (no, lg, st2) else (0, { lg with sure := lg.next }, st2)) = (no, gSure lg no, st2) := by
        unfold gSure
        split
        · rfl
        · rename_i h1
          have : no = 0 := by simpa using h1
          rw [this]
      rw [e1]
      clear o h hr e1
      go_enter Tryz.func25, Tryz.ntmps25
      go_wp2_with fail
      go_quiet (fail)
      go_wp2_with (go_at_call 62; refine (hsy _).mono ?_; rintro e w2 ⟨rfl, h2⟩; have H2 : Hid _ := h2; clear h2)
      go_ret
      exact ⟨rfl, Lft.undrawn H2.out⟩
set_option maxHeartbeats 1000000 in
theorem gFirst_any (h : Ls X w B lb d lg st) : Calls Tryz.prog 15 #[.pointer (some ⟨lb, 0, none⟩)] w fun e w' => e = .returned (.int .u64 (gFirst lg : Int)) ∧ w' = w := by
  have hq := logEql lb
  obtain ⟨es, mo, vs, sl, o⟩ := h.lo
  have c3 := o.lw.c3
  have c4 := o.lw.c4
  have hs := o.lw.segs
  obtain ⟨sa, sc, rfl, -⟩ := row_slice o.lw.row
  unfold gFirst
  cases vs with
  | nil =>
    rw [← hs]
    clear o h
    go_enter Tryz.func15, Tryz.ntmps15
    go_wp2
    go_ret
    exact ⟨rfl, rfl⟩
  | cons v r =>
    rw [← hs]
    simp only [List.map_cons]
    have hv := (o.lw.sw v (List.mem_cons_self ..)).c1
    obtain ⟨g, hg, cg⟩ : ∃ g, sa = some ⟨g, 0, none⟩ ∧ w.cell? ⟨g, 0, none⟩ = some (.pointer (some ⟨v.g, 0, none⟩)) := by
      rcases o.lw.row.2 with ⟨e, h0⟩ | ⟨g, cap, cur, e, _⟩
      · simp at h0
      · injection e with e1 e2 e3
        subst e1
        exact ⟨g, rfl, row_cell (j := 0) (v := ptr v) (by simpa using o.lw.row) (by simp)⟩
    subst hg
    have hl : (0 : Int) < (r.length : Int) + 1 := by omega
    have hl0 : ¬ ((r.length : Int) + 1 = 0) := by omega
    clear o h hs
    go_enter Tryz.func15, Tryz.ntmps15
    go_wp2
    go_ret
    exact ⟨rfl, rfl⟩
theorem gNext_any (h : Ls X w B lb d lg st) : Calls Tryz.prog 17 #[.pointer (some ⟨lb, 0, none⟩)] w fun e w' => e = .returned (.int .u64 (lg.next : Int)) ∧ w' = w := by
  have hq := logEql lb
  obtain ⟨es, mo, vs, sl, o⟩ := h.lo
  have c4 := o.lw.c4
  clear o h
  go_enter Tryz.func17, Tryz.ntmps17
  go_wp2
  go_ret
  exact ⟨rfl, rfl⟩
theorem gSure_any (h : Ls X w B lb d lg st) : Calls Tryz.prog 18 #[.pointer (some ⟨lb, 0, none⟩)] w fun e w' => e = .returned (.int .u64 (lg.sure : Int)) ∧ w' = w := by
  have hq := logEql lb
  obtain ⟨es, mo, vs, sl, o⟩ := h.lo
  have c5 := o.lw.c5
  clear o h
  go_enter Tryz.func18, Tryz.ntmps18
  go_wp2
  go_ret
  exact ⟨rfl, rfl⟩
end Go.Proofs.YteifkkceldlfnaaGreatDoor
