/-
  Package seglog's positionOf: which position a segment's name tells.
-/
import Derived.Test.YteifkkceldlfnaaGreatDoorG6Files
import Derived.Test.YteifkkceldlfnaaGreatDoorG6Lay2
import Derived.Lib.ParseIntBCases
namespace Go.Proofs.YteifkkceldlfnaaGreatDoor
open Go.RowKit Go.Shelf Go.Sort
open Go.Lib hiding intOf

/-- the two errors that ParseUint tells are there -/
def Ev (B : Nat) (w : World) : Prop := ∀ W, Below B w W → (∃ tp p, W.var? Tryz.prog "strconv.ErrSyntax" = some #[.iface tp p]) ∧ ∃ tp p, W.var? Tryz.prog "strconv.ErrRange" = some #[.iface tp p]
theorem Ev.below {B : Nat} {w w' : World} (h : Ev B w) (hb : Below B w w') : Ev B w' := fun W hW => h W (hb.trans hW)
theorem Ev.up {B B' : Nat} {w : World} (h : Ev B w) (hb : B ≤ B') : Ev B' w := fun W hW => h W (hW.mono hb)

theorem valF_le : ∀ (l : List UInt8) (a : Nat), a ≤ l.foldl valF a
  | [], a => Nat.le_refl _
  | c :: r, a => by
    rw [List.foldl_cons]
    exact Nat.le_trans (by unfold valF; omega) (valF_le r (valF a c))
theorem parse_fold : ∀ (l : List UInt8) (a n : Nat), (∀ c ∈ l, 48 ≤ c.toNat ∧ c.toNat ≤ 57) → l.foldl valF a = n → n ≤ 18446744073709551615 → Lib.parseUintM 18446744073709551615 a l = .ok n
  | [], a, n, _, h, _ => by rw [Lib.parseUintM]; exact congrArg _ h
  | c :: r, a, n, hd, h, hn => by
    rw [List.foldl_cons] at h
    have h1 := valF_le r (valF a c)
    rw [h] at h1
    unfold valF at h1
    rw [Lib.parseUintM, if_pos (hd c (by simp)), if_neg (by omega), if_neg (by omega)]
    exact parse_fold r _ n (fun x hx => hd x (by simp [hx])) h hn
theorem dec_digit (n : Nat) : ∀ c ∈ Lib.decDigits n, 48 ≤ c.toNat ∧ c.toNat ≤ 57 := by
  induction n using Nat.strongRecOn with
  | _ n ih =>
    rw [Lib.decDigits]
    split
    · intro c hc
      rw [List.mem_singleton.1 hc]
      simp
      omega
    · intro c hc
      rcases List.mem_append.1 hc with hc | hc
      · exact ih (n / 10) (by omega) c hc
      · rw [List.mem_singleton.1 hc]
        simp
        omega
theorem dgs_digit (n : Nat) : ∀ c ∈ dgs n, 48 ≤ c.toNat ∧ c.toNat ≤ 57 := by
  intro c hc
  unfold dgs at hc
  rcases List.mem_append.1 hc with hc | hc
  · rw [(List.mem_replicate.1 hc).2]; decide
  · exact dec_digit n c hc
theorem parse_dgs {n : Nat} (h0 : 1 ≤ n) (h : n ≤ 18446744073709551615) : Lib.parseUintB 64 (dgs n) = .ok n := by
  have hv := dgs_val n
  unfold Lib.parseUintB
  rw [if_neg (fun e => by rw [e] at hv; simp at hv; omega)]
  exact parse_fold (dgs n) 0 n (dgs_digit n) hv h
/-- what CutPrefix leaves -/
def cutP (pre name : ByteArray) : ByteArray := ⟨(Lib.trimPrefix name.data.toList (pre ++ ⟨#[45]⟩).data.toList).toArray⟩
theorem cutP_nam (pre : ByteArray) (n : Nat) : (cutP pre (nam pre n)).data.toList = dgs n := by
  have e : (nam pre n).data.toList = (pre ++ ⟨#[45]⟩).data.toList ++ dgs n := by
    unfold nam
    simp only [ByteArray.data_append, Array.toList_append, S_list]
    simp
  unfold cutP
  show Lib.trimPrefix _ _ = _
  unfold Lib.trimPrefix Lib.hasPrefix
  rw [e, if_pos (List.isPrefixOf_iff_prefix.2 (List.prefix_append _ _))]
  exact List.drop_left
theorem cutP_size (pre name : ByteArray) : (cutP pre name).size ≤ name.size := by
  have h : (cutP pre name).size = (Lib.trimPrefix name.data.toList (pre ++ ⟨#[45]⟩).data.toList).length := rfl
  have hl : name.data.toList.length = name.size := rfl
  rw [h]
  unfold Lib.trimPrefix
  split
  · rw [List.length_drop]; omega
  · omega
theorem cut_any (s p : ByteArray) (w : World) : Calls Tryz.prog 121 #[.string s, .string p] w fun e w' => e = .returned (.tuple #[.string ⟨(Lib.trimPrefix s.data.toList p.data.toList).toArray⟩, .bool (Lib.hasPrefix s.data.toList p.data.toList)]) ∧ w' = w := Any.strings_CutPrefix cutLay s p w
theorem par_ok0 (s : ByteArray) (hmax : s.size ≤ 9223372036854775806) (u : Nat) (h : Lib.parseUintB 64 s.data.toList = .ok u) (w : World) : Calls Tryz.prog 122 #[.string s, .int .i64 10, .int .i64 64] w fun e w' => e = .returned (.tuple #[.int .u64 (u : Int), .nilIface]) ∧ (w' = w ∨ w' = Lib.bytesWorld w 5 s) := Any.strconv_ParseUint_10_at64_ok parLay s hmax u h w
theorem par_syn (s : ByteArray) (hlim : s.size ≤ 281474976710656) (h : Lib.parseUintB 64 s.data.toList = .«syntax») (tp : TypeId) (p : Value) (w : World) (hvar : w.var? Tryz.prog "strconv.ErrSyntax" = some #[.iface tp p]) : Calls Tryz.prog 122 #[.string s, .int .i64 10, .int .i64 64] w fun e w' => ∃ N, e = .returned (.tuple #[.int .u64 0, .iface (parLay_ren.t 39) (.pointer (some ⟨N, 0, none⟩))]) ∧ w.heap.size ≤ N ∧ w'.heap[N]? = some (.cells #[.string ⟨#[80, 97, 114, 115, 101, 85, 105, 110, 116]⟩, .string s, .iface tp p] (parLay_ren.t 44) (0, 0)) ∧ Below w.heap.size w w' := Any.strconv_ParseUint_10_at64_syntax_var parLay s hlim h tp p w hvar
theorem par_ran (s : ByteArray) (hlim : s.size ≤ 281474976710656) (h : Lib.parseUintB 64 s.data.toList = .range) (tp : TypeId) (p : Value) (w : World) (hvar : w.var? Tryz.prog "strconv.ErrRange" = some #[.iface tp p]) : Calls Tryz.prog 122 #[.string s, .int .i64 10, .int .i64 64] w fun e w' => ∃ N, e = .returned (.tuple #[.int .u64 18446744073709551615, .iface (parLay_ren.t 39) (.pointer (some ⟨N, 0, none⟩))]) ∧ w.heap.size ≤ N ∧ w'.heap[N]? = some (.cells #[.string ⟨#[80, 97, 114, 115, 101, 85, 105, 110, 116]⟩, .string s, .iface tp p] (parLay_ren.t 44) (0, 0)) ∧ Below w.heap.size w w' := Any.strconv_ParseUint_10_at64_range_var parLay s hlim h tp p w hvar
/-- what positionOf comes to -/
def PosR (pre name : ByteArray) (e : Ending) : Prop :=
  (∃ n : Nat, 1 ≤ n ∧ n ≤ 1099511627777 ∧ name = nam pre n ∧ e = .returned (.tuple #[.int .u64 (n : Int), .bool true])) ∨ ((¬ ∃ n : Nat, 1 ≤ n ∧ n ≤ 1099511627777 ∧ name = nam pre n) ∧ e = .returned (.tuple #[.int .u64 0, .bool false]))

set_option maxHeartbeats 1000000 in
set_option maxRecDepth 100000 in
theorem positionOf_any {B : Nat} (pre name : ByteArray) (hp : pre.size ≤ 8) (hn : name.size ≤ 281474976710656) (w : World) (hv : Gv B w) (he : Ev B w) (hB : B ≤ w.heap.size) :
    Calls Tryz.prog 97 #[.string pre, .string name] w fun e w' => PosR pre name e ∧ Below w.heap.size w w' := by
  have hcs := cutP_size pre name
  have HC : ∀ W, Calls Tryz.prog 121 #[.string name, .string (pre ++ ⟨#[45]⟩)] W fun e w' => ∃ b, e = .returned (.tuple #[.string (cutP pre name), .bool b]) ∧ w' = W := fun W => by
    have h := cut_any name (pre ++ ⟨#[45]⟩) W
    exact h.mono fun e w' h => ⟨_, h.1, h.2⟩
  have HCN : Hid (∀ n, name = nam pre n → (cutP pre name).data.toList = dgs n) := fun n e => by rw [e]; exact cutP_nam pre n
  generalize cutP pre name = dg at *
  have HV : Hid (Gv B w) := hv
  have h45 : (⟨#[45]⟩ : ByteArray).size = 1 := rfl
  cases hpz : Lib.parseUintB 64 dg.data.toList with
  | ok u =>
    have HPU : ∀ W, Calls Tryz.prog 122 #[.string dg, .int .i64 10, .int .i64 64] W fun e w' => e = .returned (.tuple #[.int .u64 (u : Int), .nilIface]) ∧ Below W.heap.size W w' := fun W => (par_ok0 dg (by omega) u hpz W).mono fun e w' ⟨h1, h2⟩ => ⟨h1, by
      rcases h2 with rfl | rfl
      · exact Below.refl _ _
      · exact Lib.bytesWorld_below _ _ _⟩
    have HNE : Hid (∀ n : Nat, 1 ≤ n → n ≤ 1099511627777 → name = nam pre n → n = u) := fun n h1 h2 h3 => by
      rw [HCN.out n h3, parse_dgs h1 (by omega)] at hpz
      injection hpz
    clear hpz HCN
    by_cases h1 : 1 ≤ u
    · have h1' : ¬ (u : Int) < 1 := by omega
      by_cases h2 : u ≤ 1099511627777
      · have h2' : ¬ (1099511627777 : Int) < (u : Int) := by omega
        have HNA : ∀ W, Gv B W → Calls Tryz.prog 92 #[.string pre, .int .u64 (u : Int)] W fun e w' => e = .returned (.string (nam pre u)) ∧ Below W.heap.size W w' := fun W h => nameOf_any pre u (by omega) hp W h.here
        by_cases h3 : name = nam pre u
        · have HY : Hid (name = nam pre u) := h3
          have hcmp : (name.toList == (nam pre u).toList) = true := by rw [h3]; simp
          generalize nam pre u = nm at HNA hcmp
          clear h3
          go_enter Tryz.func97, Tryz.ntmps97
          go_wp2_with (first
            | (go_at_call 121; refine (HC _).mono ?_; rintro e w1 ⟨b, rfl, hw1⟩; rw [hw1]; clear hw1)
            | (go_at_call 122; refine (HPU _).mono ?_; rintro e w2 ⟨rfl, b2⟩; have B2 : Hid (Below w.heap.size w w2) := b2; have hna := HNA w2 (HV.out.below (b2.mono hB)); clear b2)
            | (go_at_call 92; refine hna.mono ?_; rintro e w3 ⟨rfl, b3⟩; (have B3 : Hid (Below w.heap.size w w3) := bel_of B2.out b3 (Nat.le_refl _)); clear b3 hna))
          exact bodyPost_ret (v := .tuple #[.int .u64 (u : Int), .bool true]) (by simp [results, Tryz.results97, go_sem]) rfl ⟨.inl ⟨u, h1, h2, HY.out, rfl⟩, B3.out⟩
        · have HN : Hid (¬ ∃ n : Nat, 1 ≤ n ∧ n ≤ 1099511627777 ∧ name = nam pre n) := by
            rintro ⟨n, k1, k2, k3⟩
            exact h3 (by rw [← HNE.out n k1 k2 k3]; exact k3)
          have hcmp : (name.toList == (nam pre u).toList) = false := beq_eq_false_iff_ne.2 (fun e => h3 (key_ext (by rw [← S_of name, ← S_of (nam pre u), S_toList, S_toList] at e; exact e)))
          generalize nam pre u = nm at HNA hcmp
          clear h3
          go_enter Tryz.func97, Tryz.ntmps97
          go_wp2_with (first
            | (go_at_call 121; refine (HC _).mono ?_; rintro e w1 ⟨b, rfl, hw1⟩; rw [hw1]; clear hw1)
            | (go_at_call 122; refine (HPU _).mono ?_; rintro e w2 ⟨rfl, b2⟩; have B2 : Hid (Below w.heap.size w w2) := b2; have hna := HNA w2 (HV.out.below (b2.mono hB)); clear b2)
            | (go_at_call 92; refine hna.mono ?_; rintro e w3 ⟨rfl, b3⟩; (have B3 : Hid (Below w.heap.size w w3) := bel_of B2.out b3 (Nat.le_refl _)); clear b3 hna))
          exact bodyPost_ret (v := .tuple #[.int .u64 0, .bool false]) (by simp [results, Tryz.results97, go_sem]) rfl ⟨.inr ⟨HN.out, rfl⟩, B3.out⟩
      · have h2' : (1099511627777 : Int) < (u : Int) := by omega
        have HN : Hid (¬ ∃ n : Nat, 1 ≤ n ∧ n ≤ 1099511627777 ∧ name = nam pre n) := by
          rintro ⟨n, k1, k2, k3⟩
          have := HNE.out n k1 k2 k3
          omega
        go_enter Tryz.func97, Tryz.ntmps97
        go_wp2_with (first
          | (go_at_call 121; refine (HC _).mono ?_; rintro e w1 ⟨b, rfl, hw1⟩; rw [hw1]; clear hw1)
          | (go_at_call 122; refine (HPU _).mono ?_; rintro e w2 ⟨rfl, b2⟩; have B2 : Hid (Below w.heap.size w w2) := b2; clear b2))
        exact bodyPost_ret (v := .tuple #[.int .u64 0, .bool false]) (by simp [results, Tryz.results97, go_sem]) rfl ⟨.inr ⟨HN.out, rfl⟩, B2.out⟩
    · have h1' : (u : Int) < 1 := by omega
      have HN : Hid (¬ ∃ n : Nat, 1 ≤ n ∧ n ≤ 1099511627777 ∧ name = nam pre n) := by
        rintro ⟨n, k1, k2, k3⟩
        have := HNE.out n k1 k2 k3
        omega
      go_enter Tryz.func97, Tryz.ntmps97
      go_wp2_with (first
        | (go_at_call 121; refine (HC _).mono ?_; rintro e w1 ⟨b, rfl, hw1⟩; rw [hw1]; clear hw1)
        | (go_at_call 122; refine (HPU _).mono ?_; rintro e w2 ⟨rfl, b2⟩; have B2 : Hid (Below w.heap.size w w2) := b2; clear b2))
      exact bodyPost_ret (v := .tuple #[.int .u64 0, .bool false]) (by simp [results, Tryz.results97, go_sem]) rfl ⟨.inr ⟨HN.out, rfl⟩, B2.out⟩
  | «syntax» =>
    obtain ⟨⟨tp, p, hvar⟩, -⟩ := he w (Below.refl _ _)
    have HPU := par_syn dg (by omega) hpz tp p w hvar
    have HN : Hid (¬ ∃ n : Nat, 1 ≤ n ∧ n ≤ 1099511627777 ∧ name = nam pre n) := by
      rintro ⟨n, h1, h2, h3⟩
      rw [HCN.out n h3, parse_dgs h1 (by omega)] at hpz
      cases hpz
    generalize parLay_ren.t 39 = t39 at *
    generalize parLay_ren.t 44 = t44 at *
    clear hpz hvar HCN
    go_enter Tryz.func97, Tryz.ntmps97
    go_wp2_with (first
      | (go_at_call 121; refine (HC _).mono ?_; rintro e w1 ⟨b, rfl, hw1⟩; rw [hw1]; clear hw1)
      | (go_at_call 122; refine HPU.mono ?_; rintro e w2 ⟨N, rfl, -, -, b2⟩; have B2 : Hid (Below w.heap.size w w2) := b2; clear b2))
    exact bodyPost_ret (v := .tuple #[.int .u64 0, .bool false]) (by simp [results, Tryz.results97, go_sem]) rfl ⟨.inr ⟨HN.out, rfl⟩, B2.out⟩
  | range =>
    obtain ⟨-, ⟨tp, p, hvar⟩⟩ := he w (Below.refl _ _)
    have HPU := par_ran dg (by omega) hpz tp p w hvar
    have HN : Hid (¬ ∃ n : Nat, 1 ≤ n ∧ n ≤ 1099511627777 ∧ name = nam pre n) := by
      rintro ⟨n, h1, h2, h3⟩
      rw [HCN.out n h3, parse_dgs h1 (by omega)] at hpz
      cases hpz
    generalize parLay_ren.t 39 = t39 at *
    generalize parLay_ren.t 44 = t44 at *
    clear hpz hvar HCN
    go_enter Tryz.func97, Tryz.ntmps97
    go_wp2_with (first
      | (go_at_call 121; refine (HC _).mono ?_; rintro e w1 ⟨b, rfl, hw1⟩; rw [hw1]; clear hw1)
      | (go_at_call 122; refine HPU.mono ?_; rintro e w2 ⟨N, rfl, -, -, b2⟩; have B2 : Hid (Below w.heap.size w w2) := b2; clear b2))
    exact bodyPost_ret (v := .tuple #[.int .u64 0, .bool false]) (by simp [results, Tryz.results97, go_sem]) rfl ⟨.inr ⟨HN.out, rfl⟩, B2.out⟩
end Go.Proofs.YteifkkceldlfnaaGreatDoor
