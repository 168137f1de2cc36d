/-
  The document's May, Less, Named: what they come to.
-/
import Derived.Test.YtpbfdaijnndilaaGreatDoorV9Nam
namespace Go.Proofs.YtpbfdaijnndilaaGreatDoor
open Go.RowKit Go.Shelf Go.Sort
open Go.Lib hiding intOf

set_option maxHeartbeats 1000000 in
theorem dMay_any (v : V9) (w : World) : Calls Tryz.prog 21 #[vA v] w fun e w' => e = .returned (.bool (mayV v)) ∧ Below w.heap.size w w' := by
  obtain ⟨k, n, s⟩ := v
  have B1 : Hid (Below w.heap.size w (w.alloc (.cells #[.int .i64 k, .int .i64 n, .string (S s)] 48))) := (Below.refl _ w).alloc (Nat.le_refl _) _
  have hsz := S_size s
  have hem := S_nil_emp
  by_cases h3 : k = 3
  · subst h3
    have HE : Hid (mayV (3, n, s) = (decide (n = 0) && decide ((s.length : Int) ≤ 1024))) := by
      show _ = _
      simp [mayV]
      rw [Bool.eq_iff_iff]; simp
      omega
    by_cases hn : n = 0
    · subst hn
      unfold vA
      go_enter Tryz.func21, Tryz.ntmps21
      go_wp2
      go_ret
      rw [HE.out]
      exact ⟨by simp, B1.out⟩
    · have hn' : ((n : Int) == 0) = false := beq_eq_false_iff_ne.2 hn
      have HE2 : Hid (mayV (3, n, s) = false) := by show _ = _; rw [HE.out]; simp [hn]
      clear HE hn
      unfold vA
      go_enter Tryz.func21, Tryz.ntmps21
      go_wp2
      go_ret
      rw [HE2.out]
      exact ⟨by simp, B1.out⟩
  · have h3' : ((k : Int) == 3) = false := beq_eq_false_iff_ne.2 h3
    by_cases h1 : k = 1
    · subst h1
      cases s with
      | nil =>
        have HE : Hid (mayV (1, n, []) = true) := by show _ = _; simp [mayV]
        unfold vA
        go_enter Tryz.func21, Tryz.ntmps21
        go_wp2
        go_ret
        rw [HE.out]
        exact ⟨rfl, B1.out⟩
      | cons c t =>
        have hne := S_emp (List.cons_ne_nil c t)
        have HE : Hid (mayV (1, n, c :: t) = false) := by show _ = _; simp [mayV]
        unfold vA
        go_enter Tryz.func21, Tryz.ntmps21
        go_wp2
        go_ret
        rw [HE.out]
        exact ⟨rfl, B1.out⟩
    · have h1' : ((k : Int) == 1) = false := beq_eq_false_iff_ne.2 h1
      by_cases h2 : k = 2
      · subst h2
        have hcs : n = 0 ∨ n = 1 ∨ (¬ n = 0 ∧ ¬ n = 1) := by omega
        cases s with
        | nil =>
          rcases hcs with rfl | rfl | ⟨q0, q1⟩
          · unfold vA
            go_enter Tryz.func21, Tryz.ntmps21
            go_wp2
            go_ret
            exact ⟨rfl, B1.out⟩
          · unfold vA
            go_enter Tryz.func21, Tryz.ntmps21
            go_wp2
            go_ret
            exact ⟨rfl, B1.out⟩
          · have HE : Hid (mayV (2, n, []) = false) := by show _ = _; simp [mayV, q0, q1]
            have q0' : ((n : Int) != 0) = true := bne_iff_ne.2 q0
            have q1' : ((n : Int) != 1) = true := bne_iff_ne.2 q1
            have q2' : ((n : Int) == 0) = false := beq_eq_false_iff_ne.2 q0
            have q3' : ((n : Int) == 1) = false := beq_eq_false_iff_ne.2 q1
            clear q0 q1
            unfold vA
            go_enter Tryz.func21, Tryz.ntmps21
            go_wp2
            go_ret
            rw [HE.out]
            exact ⟨rfl, B1.out⟩
        | cons c t =>
          have hne := S_emp (List.cons_ne_nil c t)
          have HE : Hid (mayV (2, n, c :: t) = false) := by show _ = _; simp [mayV]
          rcases hcs with rfl | rfl | ⟨q0, q1⟩
          · unfold vA
            go_enter Tryz.func21, Tryz.ntmps21
            go_wp2
            go_ret
            rw [HE.out]
            exact ⟨rfl, B1.out⟩
          · unfold vA
            go_enter Tryz.func21, Tryz.ntmps21
            go_wp2
            go_ret
            rw [HE.out]
            exact ⟨rfl, B1.out⟩
          · have q0' : ((n : Int) != 0) = true := bne_iff_ne.2 q0
            have q1' : ((n : Int) != 1) = true := bne_iff_ne.2 q1
            have q2' : ((n : Int) == 0) = false := beq_eq_false_iff_ne.2 q0
            have q3' : ((n : Int) == 1) = false := beq_eq_false_iff_ne.2 q1
            clear q0 q1
            unfold vA
            go_enter Tryz.func21, Tryz.ntmps21
            go_wp2
            go_ret
            rw [HE.out]
            exact ⟨rfl, B1.out⟩
      · have h2' : ((k : Int) == 2) = false := beq_eq_false_iff_ne.2 h2
        have HE : Hid (mayV (k, n, s) = false) := by show _ = _; simp [mayV, h1, h2, h3]
        clear h1 h2 h3
        have hcs : s = [] ∨ s ≠ [] := by cases s <;> simp
        rcases hcs with rfl | hcs
        · unfold vA
          go_enter Tryz.func21, Tryz.ntmps21
          go_wp2
          go_ret
          rw [HE.out]
          exact ⟨rfl, B1.out⟩
        · have hne := S_emp hcs
          clear hcs
          unfold vA
          go_enter Tryz.func21, Tryz.ntmps21
          go_wp2
          go_ret
          rw [HE.out]
          exact ⟨rfl, B1.out⟩

/-- what stands in a byte -/
theorem byte_ways (c : UInt8) : (isL c = true ∧ 97 ≤ c.toNat ∧ c.toNat ≤ 122) ∨ (isL c = false ∧ (c.toNat < 97 ∨ 122 < c.toNat)) := by
  by_cases h : 97 ≤ c.toNat ∧ c.toNat ≤ 122
  · exact .inl ⟨by simp [isL, h], h⟩
  · exact .inr ⟨by simp only [isL, decide_eq_false_iff_not]; exact h, by omega⟩
theorem byte_ways2 (c : UInt8) : (isD c = true ∧ 48 ≤ c.toNat ∧ c.toNat ≤ 57) ∨ (isD c = false ∧ (c.toNat < 48 ∨ 57 < c.toNat)) := by
  by_cases h : 48 ≤ c.toNat ∧ c.toNat ≤ 57
  · exact .inl ⟨by simp [isD, h], h⟩
  · exact .inr ⟨by simp only [isD, decide_eq_false_iff_not]; exact h, by omega⟩
/-- the letter in a place as the document has it -/
def plc (i : Nat) (c : UInt8) : Bool := isL c || (decide (i ≠ 0) && isN c)
theorem plc_all {s : List UInt8} : (∀ (i : Nat) (h : i < s.length), plc i s[i] = true) → s.all isN = true ∧ ∀ h : 0 < s.length, isL s[0] = true := by
  intro h
  refine ⟨?_, fun h0 => ?_⟩
  · rw [List.all_eq_true]
    intro x hx
    obtain ⟨i, hi, rfl⟩ := List.getElem_of_mem hx
    have := h i hi
    unfold plc at this
    rw [Bool.or_eq_true, Bool.and_eq_true] at this
    rcases this with h1 | h1
    · unfold isN; rw [h1]; rfl
    · exact h1.2
  · have := h 0 h0
    unfold plc at this
    simpa using this
theorem plc_not {s : List UInt8} {i : Nat} (h : i < s.length) (hp : plc i s[i] = false) : namV s = false := by
  unfold plc at hp
  rw [Bool.or_eq_false_iff] at hp
  by_cases h0 : i = 0
  · subst h0
    exact nam_first h hp.1
  · rw [decide_eq_true (by exact h0), Bool.true_and] at hp
    exact nam_all (all_not h hp.2)

set_option maxHeartbeats 8000000 in
set_option maxRecDepth 100000 in
theorem dNam_any (a : ByteArray) (hs : a.size ≤ 4611686018427387904) (w : World) :
    Calls Tryz.prog 38 #[.string a] w fun e w' => e = .returned (.bool (namV a.data.toList)) ∧ w' = w := by
  have hl : a.data.toList.length = a.size := by simp
  by_cases z0 : a.size = 0
  · have HE : Hid (namV a.data.toList = false) := nam_small (by omega)
    have z0' : (a.size : Int) < 1 := by omega
    go_enter Tryz.func38, Tryz.ntmps38
    go_wp2
    go_ret
    rw [HE.out]
    exact ⟨rfl, rfl⟩
  · have z0' : ¬ (a.size : Int) < 1 := by omega
    by_cases z1 : 32 < a.size
    · have z1' : (32 : Int) < (a.size : Int) := by omega
      have HE : Hid (namV a.data.toList = false) := nam_small (by omega)
      go_enter Tryz.func38, Tryz.ntmps38
      go_wp2
      go_ret
      rw [HE.out]
      exact ⟨rfl, rfl⟩
    · have z1' : ¬ (32 : Int) < (a.size : Int) := by omega
      go_enter Tryz.func38, Tryz.ntmps38
      go_wp2
      go_loopw [3] (fun v3 wr => ∃ i : Nat, v3 = .int .i64 (i : Int) ∧ i ≤ a.size ∧ Hid (∀ (j : Nat) (h : j < i) (h2 : j < a.data.toList.length), plc j a.data.toList[j] = true) ∧ wr = w) (fun v3 _ => a.size - (intOf v3).toNat)
      case atStart => exact ⟨0, rfl, Nat.zero_le _, fun j h => by omega, rfl⟩
      case round =>
        obtain ⟨i, rfl, hi, HA, hwr⟩ := hrel
        rw [hwr]
        clear hwr
        by_cases hlt : i < a.size
        · have hlt' : (i : Int) < (a.size : Int) := by omega
          have hi0' : (0 : Int) ≤ (i : Int) := by omega
          have HN : Hid (plc i (a.data.toList[i]'(by omega)) = (isL (a[i]'hlt) || (decide (i ≠ 0) && (isL (a[i]'hlt) || isD (a[i]'hlt) || decide ((a[i]'hlt).toNat = 95))))) := by show _ = _; rw [bget a i hlt]; rfl
          have NX : Hid (plc i (a.data.toList[i]'(by omega)) = true → ∀ (j : Nat) (h : j < i + 1) (h2 : j < a.data.toList.length), plc j a.data.toList[j] = true) := fun hp j h h2 => by
            rcases Nat.lt_or_ge j i with h3 | h3
            · exact HA.out j h3 h2
            · obtain rfl : j = i := by omega
              exact hp
          have NO : Hid (plc i (a.data.toList[i]'(by omega)) = false → namV a.data.toList = false) := fun hp => plc_not _ hp
          have hcL := byte_ways (a[i]'hlt)
          have hcD := byte_ways2 (a[i]'hlt)
          have hcI : ((i : Int) == 0) = true ∧ i = 0 ∨ ((i : Int) == 0) = false ∧ i ≠ 0 := by
            by_cases h : i = 0
            · exact .inl ⟨by rw [h]; rfl, h⟩
            · exact .inr ⟨beq_eq_false_iff_ne.2 (by omega), h⟩
          have hcU : (((((a[i]'hlt).toNat : Nat) : Int) == 95) = true ∧ (a[i]'hlt).toNat = 95) ∨ (((((a[i]'hlt).toNat : Nat) : Int) == 95) = false ∧ (a[i]'hlt).toNat ≠ 95) := by
            by_cases h : (a[i]'hlt).toNat = 95
            · exact .inl ⟨by rw [h]; rfl, h⟩
            · exact .inr ⟨beq_eq_false_iff_ne.2 (by omega), h⟩
          have fin : Hid (∀ (p : Bool), (isL (a[i]'hlt) || (decide (i ≠ 0) && (isL (a[i]'hlt) || isD (a[i]'hlt) || decide ((a[i]'hlt).toNat = 95)))) = p → plc i (a.data.toList[i]'(by omega)) = p) := fun p h => HN.out.trans h
          clear HN HA
          have g1 : (97 : Int) ≤ (((a[i]'hlt).toNat : Nat) : Int) ∨ ¬ (97 : Int) ≤ (((a[i]'hlt).toNat : Nat) : Int) := Classical.em _
          have g2 : (((a[i]'hlt).toNat : Nat) : Int) ≤ 122 ∨ ¬ (((a[i]'hlt).toNat : Nat) : Int) ≤ 122 := Classical.em _
          have g3 : (48 : Int) ≤ (((a[i]'hlt).toNat : Nat) : Int) ∨ ¬ (48 : Int) ≤ (((a[i]'hlt).toNat : Nat) : Int) := Classical.em _
          have g4 : (((a[i]'hlt).toNat : Nat) : Int) ≤ 57 ∨ ¬ (((a[i]'hlt).toNat : Nat) : Int) ≤ 57 := Classical.em _
          rcases hcL with ⟨l1, l2, l3⟩ | ⟨l1, l2⟩
          · have p1 : Hid _ := NX.out (fin.out true (by rw [l1]; rfl))
            have k1 : (97 : Int) ≤ (((a[i]'hlt).toNat : Nat) : Int) := by omega
            have k2 : (((a[i]'hlt).toNat : Nat) : Int) ≤ 122 := by omega
            have k3 : (48 : Int) ≤ (((a[i]'hlt).toNat : Nat) : Int) := by omega
            have k4 : ¬ (((a[i]'hlt).toNat : Nat) : Int) ≤ 57 := by omega
            have k5 : ((((a[i]'hlt).toNat : Nat) : Int) == 95) = false := beq_eq_false_iff_ne.2 (by omega)
            clear g1 g2 g3 g4 hcD hcI hcU NX NO fin l1 l2 l3 z0 z1
            go_wp2
            go_roundw
            case rel => exact ⟨i + 1, by simp, by omega, p1, by simp⟩
            case measure => simp [intOf]; omega
          · have hd : isD (a[i]'hlt) = true ∨ isD (a[i]'hlt) = false := by cases isD (a[i]'hlt) <;> simp
            rcases hcI with ⟨i1, i2⟩ | ⟨i1, i2⟩
            · have p1 : Hid _ := NO.out (fin.out false (by rw [l1, show decide (i ≠ 0) = false by simpa using i2]; rfl))
              clear hcD hcU NX NO fin l1 z0 z1 i2 hd
              rcases g1 with g1 | g1 <;> rcases g2 with g2 | g2 <;> rcases g3 with g3 | g3 <;> rcases g4 with g4 | g4 <;> first
                | (exfalso; omega)
                | (clear l2
                   go_wp2
                   go_ret
                   rw [p1.out]
                   exact ⟨rfl, rfl⟩)
                | (have h5 := Classical.em (((((a[i]'hlt).toNat : Nat) : Int) == 95) = true)
                   clear l2
                   rcases h5 with h5 | h5
                   · go_wp2
                     go_ret
                     rw [p1.out]
                     exact ⟨rfl, rfl⟩
                   · rw [Bool.not_eq_true] at h5
                     go_wp2
                     go_ret
                     rw [p1.out]
                     exact ⟨rfl, rfl⟩)
            · rcases hcD with ⟨d1, d2, d3⟩ | ⟨d1, d2⟩
              · have p1 : Hid _ := NX.out (fin.out true (by rw [l1, d1, decide_eq_true i2]; rfl))
                have k1 : ¬ (97 : Int) ≤ (((a[i]'hlt).toNat : Nat) : Int) := by omega
                have k3 : (48 : Int) ≤ (((a[i]'hlt).toNat : Nat) : Int) := by omega
                have k4 : (((a[i]'hlt).toNat : Nat) : Int) ≤ 57 := by omega
                clear g1 g2 g3 g4 hcU NX NO fin l1 l2 z0 z1 d1 d2 d3 hd i2
                go_wp2
                go_roundw
                case rel => exact ⟨i + 1, by simp, by omega, p1, by simp⟩
                case measure => simp [intOf]; omega
              · rcases hcU with ⟨u1, u2⟩ | ⟨u1, u2⟩
                · have p1 : Hid _ := NX.out (fin.out true (by rw [l1, d1, decide_eq_true i2, u2]; rfl))
                  have k1 : ¬ (97 : Int) ≤ (((a[i]'hlt).toNat : Nat) : Int) := by omega
                  have k3 : (48 : Int) ≤ (((a[i]'hlt).toNat : Nat) : Int) := by omega
                  have k4 : ¬ (((a[i]'hlt).toNat : Nat) : Int) ≤ 57 := by omega
                  clear g1 g2 g3 g4 NX NO fin l1 l2 z0 z1 d1 d2 hd i2 u2
                  go_wp2
                  go_roundw
                  case rel => exact ⟨i + 1, by simp, by omega, p1, by simp⟩
                  case measure => simp [intOf]; omega
                · have p1 : Hid _ := NO.out (fin.out false (by rw [l1, d1, decide_eq_false u2]; simp))
                  clear NX NO fin l1 z0 z1 d1 hd i2 u2
                  rcases g1 with g1 | g1 <;> rcases g2 with g2 | g2 <;> rcases g3 with g3 | g3 <;> rcases g4 with g4 | g4 <;> first
                    | (exfalso; omega)
                    | (clear l2 d2
                       go_wp2
                       go_ret
                       rw [p1.out]
                       exact ⟨rfl, rfl⟩)
        · obtain rfl : i = a.size := by omega
          have hlt' : ¬ (a.size : Int) < (a.size : Int) := by omega
          cases hw : wds.contains a.data.toList with
          | true =>
            have HE : Hid (namV a.data.toList = false) := nam_word hw
            have hcs := word_lit hw
            clear hw HA hl
            rcases hcs with rfl | rfl | rfl | rfl | rfl | rfl
            all_goals
              go_wp2
              go_ret
              rw [HE.out]
              exact ⟨rfl, rfl⟩
          | false =>
            have h7 := plc_all (s := a.data.toList) (fun j h => HA.out j (by omega) h)
            have HE : Hid (namV a.data.toList = true) := nam_yes hw (by omega) (by omega) (h7.2 (by omega)) h7.1
            simp only [wds, List.contains_cons, Bool.or_eq_false_iff, beq_eq_false_iff_ne] at hw
            obtain ⟨h1, h2, h3, h4, h5, h6, -⟩ := hw
            have c1 := beq_lit h1
            have c2 := beq_lit h2
            have c3 := beq_lit h3
            have c4 := beq_lit h4
            have c5 := beq_lit h5
            have c6 := beq_lit h6
            clear h1 h2 h3 h4 h5 h6 h7 HA
            go_wp2
            go_ret
            rw [HE.out]
            exact ⟨rfl, rfl⟩
end Go.Proofs.YtpbfdaijnndilaaGreatDoor
