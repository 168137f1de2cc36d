/-
  Package seglog's fill, its plain half: the records of the frames that begin a segment's bytes; and one batch more in memory.
-/
import Derived.Test.YteifkkceldlfnaaGreatDoorG6TakB
import Derived.Test.YteifkkceldlfnaaGreatDoorGLog
import Derived.Test.YteifkkceldlfnaaGreatDoorGRange
import Derived.Maps.AppendAt
namespace Go.Proofs.YteifkkceldlfnaaGreatDoor
open Go.RowKit Go.Shelf Go.Sort
open Go.Lib hiding intOf

/-- the records of frames, the first one at position n; none: a frame is no batch, or not at its position -/
def filS : Nat → List Fr → Option (List (List UInt8))
  | _, [] => some []
  | n, f :: t => match tkB f.1 f.2.1 with
    | some (p, rs) => if p = n ∧ n + rs.length ≤ 1099511627777 then (filS (n + rs.length) t).map (rs ++ ·) else none
    | none => none
theorem filS_append : ∀ (a b : List Fr) (n : Nat), filS n (a ++ b) = (filS n a).bind fun rs => (filS (n + rs.length) b).map (rs ++ ·)
  | [], b, n => by simp [filS]
  | f :: t, b, n => by
    rw [List.cons_append, filS, filS]
    cases tkB f.1 f.2.1 with
    | none => rfl
    | some pr =>
      obtain ⟨p, rs⟩ := pr
      simp only
      by_cases h : p = n ∧ n + rs.length ≤ 1099511627777
      · rw [if_pos h, if_pos h, filS_append t b (n + rs.length)]
        cases filS (n + rs.length) t with
        | none => rfl
        | some r2 =>
          simp only [Option.bind_some, Option.map_some, List.length_append]
          rw [Nat.add_assoc]
          cases filS (n + (rs.length + r2.length)) b with
          | none => rfl
          | some r3 => simp
      · rw [if_neg h, if_neg h]
        rfl
theorem filS_snoc {pre : List Fr} {x : Fr} {n : Nat} {rs : List (List UInt8)} (h : filS n pre = some rs) : filS n (pre ++ [x]) = match tkB x.1 x.2.1 with
    | some (p, r) => if p = n + rs.length ∧ n + rs.length + r.length ≤ 1099511627777 then some (rs ++ r) else none
    | none => none := by
  rw [filS_append, h, Option.bind_some, filS]
  cases tkB x.1 x.2.1 with
  | none => rfl
  | some pr =>
    obtain ⟨p, r⟩ := pr
    simp only
    split
    · simp [filS]
    · rfl
theorem filS_none {pre l : List Fr} {n : Nat} (h : filS n pre = none) (hp : pre <+: l) : filS n l = none := by
  obtain ⟨t, rfl⟩ := hp
  rw [filS_append, h]
  rfl
theorem filS_max {n : Nat} (hn : n ≤ 1099511627777) : ∀ {l : List Fr} {rs : List (List UInt8)}, filS n l = some rs → n + rs.length ≤ 1099511627777 := by
  intro l
  induction l generalizing n with
  | nil => intro rs h; simp [filS] at h; subst h; simpa using hn
  | cons f t ih =>
    intro rs h
    rw [filS] at h
    cases ht : tkB f.1 f.2.1 with
    | none => rw [ht] at h; cases h
    | some pr =>
      obtain ⟨p, r⟩ := pr
      rw [ht] at h
      simp only at h
      split at h
      · rename_i hc
        obtain ⟨r2, h2, rfl⟩ := Option.map_eq_some_iff.1 h
        have := ih hc.2 h2
        rw [List.length_append]
        omega
      · cases h
section
variable {W u : World} {B g s : Nat} {pre : ByteArray} {sg : Sg} {rv : Value} {rs : List (List UInt8)}
/-- a batch more behind a segment's records -/
theorem Sw.gather (h : Sw u B pre ⟨sg, g, rv⟩) (hr : u.ownsRow s 9 1 rv sg.recs.length (strCs sg.recs)) (hs : B ≤ s) (hsu : s ≤ u.heap.size) {ad : Addr} {c : Nat} (hc : ∀ j w, (strCs rs)[j]? = some w → u.cell? (ad.add j) = some w) (hb : sg.recs.length + rs.length ≤ 1099511627777) :
    ∃ a1 c1 w1, (Builtin.append_ #[35, 35] 35 #[rv, .slice (some ad) rs.length c]).run Tryz.prog u = .ok (.slice a1 (sg.recs.length + rs.length) c1) w1 ∧ w1.cell? ⟨g, 3, none⟩ = some rv ∧ w1.frozen? ⟨g, 3, none⟩ = false ∧ Ch (fun k => rv.ownBlock = some k) u w1 ∧
      Sw (w1.setCell ⟨g, 3, none⟩ (.slice a1 (sg.recs.length + rs.length) c1)) B pre ⟨⟨sg.first, sg.recs ++ rs, sg.size⟩, g, .slice a1 (sg.recs.length + rs.length) c1⟩ ∧ (w1.setCell ⟨g, 3, none⟩ (.slice a1 (sg.recs.length + rs.length) c1)).ownsRow s 9 1 (.slice a1 (sg.recs.length + rs.length) c1) (sg.recs ++ rs).length (strCs (sg.recs ++ rs)) ∧ Ch (fun k => k = g ∨ rv.ownBlock = some k) u (w1.setCell ⟨g, 3, none⟩ (.slice a1 (sg.recs.length + rs.length) c1)) := by
  obtain ⟨i0, hi0, hz0, hz1, hz2⟩ := info_parts infoStr
  obtain ⟨v1, w1, r1, r2, r3, -, r5⟩ := run_append_own_at (P := Tryz.prog) (w := u) s 35 35 9 i0 (.string ⟨#[]⟩) 1 16 Tryz.underlying35 hi0 hz0 hz1 hz2 rfl (by decide) rv sg.recs.length _ hr ad rs.length c (strCs rs) (by rw [strCs_length]; simp) hc (by intro x hx; obtain ⟨y, _, rfl⟩ := List.mem_map.1 hx; rfl) (by unfold maxLen; omega) (by omega) hsu
  have hgne : ∀ x, rv.ownBlock = some x → x ≠ g := fun x hx e => by
    obtain ⟨_, cur, h1⟩ := row_obj hr hx
    have h2 := h.hd
    simp only at h2
    rw [← e, h1] at h2
    cases h2
  have c1 : Ch (fun k => rv.ownBlock = some k) u w1 := Ch.of_grown r3 (fun k e _ => e)
  have h1 := c1.obj h.hd (fun e => hgne _ e rfl)
  simp only at h1
  obtain ⟨a1, k1, rfl, -⟩ := row_slice r2
  have hgl := (Array.getElem?_eq_some_iff.1 h.hd).1
  simp only at hgl
  have c2 : Ch (fun k => k = g) w1 (w1.setCell ⟨g, 3, none⟩ (.slice a1 (sg.recs.length + rs.length) k1)) := (Ch.refl _ w1).setCell _ _ (fun _ => rfl)
  have c3 : Ch (fun k => k = g ∨ rv.ownBlock = some k) u (w1.setCell ⟨g, 3, none⟩ (.slice a1 (sg.recs.length + rs.length) k1)) := (c1.mono (fun k _ h => .inr h)).joinG c2 (fun k _ h => .inl h)
  have hrow : (w1.setCell ⟨g, 3, none⟩ (.slice a1 (sg.recs.length + rs.length) k1)).ownsRow s 9 1 (.slice a1 (sg.recs.length + rs.length) k1) (sg.recs ++ rs).length (strCs (sg.recs ++ rs)) := by
    rw [List.length_append, show strCs (sg.recs ++ rs) = strCs sg.recs ++ strCs rs by simp [strCs]]
    refine c2.row r2 (fun x hx e => ?_)
    rcases r5 with e2 | e2
    · exact hgne x (e2 ▸ hx) e
    · rw [e2] at hx; cases hx; omega
  refine ⟨a1, k1, w1, r1, by simp [World.cell?, h1], by simp [World.frozen?, h1], c1, ⟨?_, row_low hrow hs, h.low⟩, hrow, c3⟩
  exact heap_setCell_same _ _ 3 _ _ _ h1
end
end Go.Proofs.YteifkkceldlfnaaGreatDoor
