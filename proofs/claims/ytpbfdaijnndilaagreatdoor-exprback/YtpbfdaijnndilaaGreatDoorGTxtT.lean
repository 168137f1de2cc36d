/-
  Package expr: texts in a text.
-/
import Derived.Test.YtpbfdaijnndilaaGreatDoorGExprA
namespace Go.Proofs.YtpbfdaijnndilaaGreatDoor.x10
open Go.RowKit Go.Shelf Go.Sort
open Go.Lib hiding intOf

theorem shown_any : Bt 139 kS := fun c w => by
  unfold kS
  by_cases h1 : 32 ≤ c.toNat
  · have h1' : (32 : Int) ≤ (c.toNat : Int) := by omega
    by_cases h2 : c.toNat ≤ 126
    · have h2' : (c.toNat : Int) ≤ 126 := by omega
      rw [decide_eq_true h1, decide_eq_true h2]
      go_enter Tryz.func139, Tryz.ntmps139
      go_wp2
      go_ret
      exact ⟨rfl, rfl⟩
    · have h2' : ¬ (c.toNat : Int) ≤ 126 := by omega
      rw [decide_eq_true h1, decide_eq_false h2]
      go_enter Tryz.func139, Tryz.ntmps139
      go_wp2
      go_ret
      exact ⟨rfl, rfl⟩
  · have h1' : ¬ (32 : Int) ≤ (c.toNat : Int) := by omega
    rw [decide_eq_false h1]
    go_enter Tryz.func139, Tryz.ntmps139
    go_wp2
    go_ret
    exact ⟨rfl, rfl⟩
def hexL : List UInt8 := [48, 49, 50, 51, 52, 53, 54, 55, 56, 57, 97, 98, 99, 100, 101, 102]
def hexI (c : UInt8) : Int := match hexV c with
  | some a => (a : Int)
  | none => -1
theorem hex_all : ∀ n : Fin 256, Lib.indexByte hexL (UInt8.ofNat n.val) = hexI (UInt8.ofNat n.val) := by decide +kernel
theorem hex_ix (c : UInt8) : Lib.indexByte hexL c = hexI c := by
  have := hex_all ⟨c.toNat, c.toNat_lt⟩
  rwa [UInt8.ofNat_toNat] at this
theorem ib_any (c : UInt8) (w : World) : Calls Tryz.prog 138 #[.string ⟨#[48, 49, 50, 51, 52, 53, 54, 55, 56, 57, 97, 98, 99, 100, 101, 102]⟩, .int .u8 (c.toNat : Int)] w fun e w' => e = .returned (.int .i64 (hexI c)) ∧ w' = w := by
  have := Any.strings_IndexByte ibLay ⟨#[48, 49, 50, 51, 52, 53, 54, 55, 56, 57, 97, 98, 99, 100, 101, 102]⟩ (c.toNat : Int) w
  rw [show ((c.toNat : Int).toNat).toUInt8 = c by simp] at this
  rw [← hex_ix]
  exact this
theorem hexI_le (c : UInt8) : hexI c = -1 ∨ (0 ≤ hexI c ∧ hexI c < 16) := by
  unfold hexI hexV kD
  split
  · rename_i a h
    split at h
    · rename_i hk
      simp only [Bool.and_eq_true, decide_eq_true_eq] at hk
      cases h
      right
      omega
    · split at h
      · cases h
        right
        omega
      · cases h
  · exact .inl rfl
/-- what readByte answers -/
def rbA (x : UInt8 × Nat) : Value := .tuple #[.int .u8 (x.1.toNat : Int), .int .i64 (x.2 : Int)]

set_option maxHeartbeats 1000000 in
set_option maxRecDepth 100000 in
theorem rb_esc (c : UInt8) (t : List UInt8) (hc : c = 34 ∨ c = 92) (w : World) : Calls Tryz.prog 118 #[.string (S (92 :: c :: t))] w fun e w' => e = .returned (rbA (c, 2)) ∧ w' = w := by
  have CA := hp_any (92 :: c :: t) [92, 34]
  have CB := hp_any (92 :: c :: t) [92, 92]
  have hz := S_size (92 :: c :: t)
  have hl : (92 :: c :: t).length = t.length + 2 := rfl
  have hg1 : ∀ (h : 1 < (S (92 :: c :: t)).size), (S (92 :: c :: t))[1]'h = c := fun h => S_at (92 :: c :: t) 1 (by simp) h
  have hg2 : (1 : Int) < ((92 :: c :: t).length : Int) := by omega
  have hg3 : 1 < (92 :: c :: t).length := by omega
  unfold rbA
  simp only
  rcases hc with rfl | rfl
  · rw [show List.isPrefixOf [92, 34] (92 :: 34 :: t) = true by simp [List.isPrefixOf]] at CA
    generalize (92 :: 34 :: t : List UInt8) = L at *
    go_enter Tryz.func118, Tryz.ntmps118
    go_wp2_with (go_at_call 121; refine (CA _).mono ?_; rintro e w1 ⟨rfl, hw1⟩; rw [hw1]; clear hw1 CA)
    go_ret2
    exact ⟨rfl, rfl⟩
  · rw [show List.isPrefixOf [92, 34] (92 :: 92 :: t) = false by simp [List.isPrefixOf]] at CA
    rw [show List.isPrefixOf [92, 92] (92 :: 92 :: t) = true by simp [List.isPrefixOf]] at CB
    generalize (92 :: 92 :: t : List UInt8) = L at *
    go_enter Tryz.func118, Tryz.ntmps118
    go_wp2_with (first
      | (go_at_call 121; refine (CA _).mono ?_; rintro e w1 ⟨rfl, hw1⟩; rw [hw1]; clear hw1 CA)
      | (go_at_call 121; refine (CB _).mono ?_; rintro e w1 ⟨rfl, hw1⟩; rw [hw1]; clear hw1 CB))
    go_ret2
    exact ⟨rfl, rfl⟩

set_option maxHeartbeats 400000 in
set_option maxRecDepth 100000 in
theorem rb_hex (a b : UInt8) (t : List UInt8) (w : World) : Calls Tryz.prog 118 #[.string (S (92 :: 120 :: a :: b :: t))] w fun e w' => e = .returned (rbA (rdB1 (92 :: 120 :: a :: b :: t))) ∧ Below w.heap.size w w' := by
  have CA := hp_any (92 :: 120 :: a :: b :: t) [92, 34]
  have CB := hp_any (92 :: 120 :: a :: b :: t) [92, 92]
  have CC := hp_any (92 :: 120 :: a :: b :: t) [92, 120]
  rw [show List.isPrefixOf [92, 34] (92 :: 120 :: a :: b :: t) = false by simp [List.isPrefixOf]] at CA
  rw [show List.isPrefixOf [92, 92] (92 :: 120 :: a :: b :: t) = false by simp [List.isPrefixOf]] at CB
  rw [show List.isPrefixOf [92, 120] (92 :: 120 :: a :: b :: t) = true by simp [List.isPrefixOf]] at CC
  have hz := S_size (92 :: 120 :: a :: b :: t)
  have hl : (92 :: 120 :: a :: b :: t).length = t.length + 4 := rfl
  have hg1 : ∀ (h : 2 < (S (92 :: 120 :: a :: b :: t)).size), (S (92 :: 120 :: a :: b :: t))[2]'h = a := fun h => S_at (92 :: 120 :: a :: b :: t) 2 (by simp) h
  have hg2 : ∀ (h : 3 < (S (92 :: 120 :: a :: b :: t)).size), (S (92 :: 120 :: a :: b :: t))[3]'h = b := fun h => S_at (92 :: 120 :: a :: b :: t) 3 (by simp) h
  have hg3 : (3 : Int) < ((92 :: 120 :: a :: b :: t).length : Int) := by omega
  have hg4 : 3 < (92 :: 120 :: a :: b :: t).length := by omega
  have hg5 : (2 : Int) < ((92 :: 120 :: a :: b :: t).length : Int) := by omega
  have hg6 : 2 < (92 :: 120 :: a :: b :: t).length := by omega
  have hg7 : (4 : Int) ≤ ((92 :: 120 :: a :: b :: t).length : Int) := by omega
  have IA := ib_any a
  have IB := ib_any b
  have la := hexI_le a
  have lb := hexI_le b
  have HE : Hid (rdB1 (92 :: 120 :: a :: b :: t) = match hexV a, hexV b with
    | some x, some y => if kS (UInt8.ofNat (16 * x + y)) then (0, 0) else (UInt8.ofNat (16 * x + y), 4)
    | _, _ => (0, 0)) := by show _ = _; rfl
  generalize (92 :: 120 :: a :: b :: t : List UInt8) = L at *
  unfold rbA
  go_enter Tryz.func118, Tryz.ntmps118
  go_wp2_with (first
    | (go_at_call 121; refine (CA _).mono ?_; rintro e w1 ⟨rfl, hw1⟩; rw [hw1]; clear hw1 CA)
    | (go_at_call 121; refine (CB _).mono ?_; rintro e w1 ⟨rfl, hw1⟩; rw [hw1]; clear hw1 CB)
    | (go_at_call 121; refine (CC _).mono ?_; rintro e w1 ⟨rfl, hw1⟩; rw [hw1]; clear hw1 CC))
  go_quiet (first
    | (go_at_call_of 138 (Value.int IntKind.u8 (a.toNat : Int)); refine Calls.quiet_of_same (IA _))
    | (go_at_call 138; refine Calls.quiet_of_same (IB _)))
  cases ha : hexV a with
  | none =>
    have ha' : hexI a = -1 := by unfold hexI; rw [ha]
    rw [ha] at HE
    rw [ha']
    clear IA IB la lb ha ha'
    go_wp2
    go_ret2
    rw [HE.out]
    exact ⟨rfl, below_drewN (Below.refl _ _) _⟩
  | some x =>
    have ha' : hexI a = (x : Int) := by unfold hexI; rw [ha]
    have hx : x < 16 := by omega
    rw [ha'] 
    cases hb : hexV b with
    | none =>
      have hb' : hexI b = -1 := by unfold hexI; rw [hb]
      rw [ha, hb] at HE
      rw [hb']
      clear IA IB la lb ha ha' hb hb'
      go_wp2
      go_ret2
      rw [HE.out]
      exact ⟨rfl, below_drewN (Below.refl _ _) _⟩
    | some y =>
      have hb' : hexI b = (y : Int) := by unfold hexI; rw [hb]
      have hy : y < 16 := by omega
      rw [ha, hb] at HE
      rw [hb']
      clear IA IB la lb ha ha' hb hb'
      obtain ⟨c, hc⟩ : ∃ c, UInt8.ofNat (16 * x + y) = c := ⟨_, rfl⟩
      have hcn : c.toNat = 16 * x + y := by rw [← hc, UInt8.toNat_ofNat']; omega
      have HE2 : Hid (rdB1 L = if kS c then (0, 0) else (c, 4)) := by
        show _ = _
        rw [HE.out, ← hc]
      clear HE hc
      have CS := shown_any c
      have hci : (x : Int) * 16 + (y : Int) = (c.toNat : Int) := by rw [hcn]; omega
      have hcl : c.toNat < 256 := c.toNat_lt
      clear hcn
      cases hk : kS c with
      | true =>
        rw [hk] at CS HE2
        go_wp2_with (go_at_call 139; refine (CS _).mono ?_; rintro e w1 ⟨rfl, hw1⟩; rw [hw1]; clear hw1)
        go_ret2
        rw [HE2.out]
        exact ⟨rfl, below_drewN (Below.refl _ _) _⟩
      | false =>
        rw [hk] at CS HE2
        go_wp2_with (go_at_call 139; refine (CS _).mono ?_; rintro e w1 ⟨rfl, hw1⟩; rw [hw1]; clear hw1)
        go_ret2
        rw [HE2.out]
        exact ⟨rfl, below_drewN (Below.refl _ _) _⟩
/-- the rest of what may begin a text's byte -/
def oth (l : List UInt8) : Prop := List.isPrefixOf [92, 34] l = false ∧ List.isPrefixOf [92, 92] l = false ∧ (List.isPrefixOf [92, 120] l = false ∨ l.length < 4)
theorem rb_ways (l : List UInt8) : (∃ c t, l = 92 :: c :: t ∧ (c = 34 ∨ c = 92)) ∨ (∃ a b t, l = 92 :: 120 :: a :: b :: t) ∨ (oth l ∧ ((l = [] ∧ rdB1 l = (0, 0)) ∨ ∃ c t, l = c :: t ∧ rdB1 l = if kS c && c.toNat != 34 && c.toNat != 92 then (c, 1) else (0, 0))) := by
  unfold oth
  match l with
  | [] => exact .inr (.inr ⟨⟨rfl, rfl, .inl rfl⟩, .inl ⟨rfl, rfl⟩⟩)
  | [c] => refine .inr (.inr ⟨⟨by simp [List.isPrefixOf], by simp [List.isPrefixOf], .inr (by simp)⟩, .inr ⟨c, [], rfl, ?_⟩⟩); unfold rdB1; split <;> simp_all
  | c :: d :: t =>
    by_cases hc : c = 92
    · subst hc
      by_cases hd : d = 34 ∨ d = 92
      · exact .inl ⟨d, t, rfl, hd⟩
      · have h1 : d ≠ 34 := fun e => hd (.inl e)
        have h2 : d ≠ 92 := fun e => hd (.inr e)
        by_cases hx : d = 120
        · subst hx
          match t with
          | [] => exact .inr (.inr ⟨⟨by simp [List.isPrefixOf], by simp [List.isPrefixOf], .inr (by simp)⟩, .inr ⟨92, [120], rfl, rfl⟩⟩)
          | [a] => exact .inr (.inr ⟨⟨by simp [List.isPrefixOf], by simp [List.isPrefixOf], .inr (by simp)⟩, .inr ⟨92, [120, a], rfl, rfl⟩⟩)
          | a :: b :: t => exact .inr (.inl ⟨a, b, t, rfl⟩)
        · refine .inr (.inr ⟨⟨by simp [List.isPrefixOf]; exact fun e => h1 e.symm, by simp [List.isPrefixOf]; exact fun e => h2 e.symm, .inl (by simp [List.isPrefixOf]; exact fun e => hx e.symm)⟩, .inr ⟨92, d :: t, rfl, ?_⟩⟩)
          unfold rdB1
          split
          · rename_i e; simp at e; exact absurd e.1 h1
          · rename_i e; simp at e; exact absurd e.1 h2
          · rename_i e; simp at e; exact absurd e.1 hx
          · rename_i e; simp at e; obtain ⟨rfl, -⟩ := e; rfl
          · rename_i e; cases e
    · refine .inr (.inr ⟨⟨by simp [List.isPrefixOf]; exact fun e => absurd e.symm hc, by simp [List.isPrefixOf]; exact fun e => absurd e.symm hc, .inl (by simp [List.isPrefixOf]; exact fun e => absurd e.symm hc)⟩, .inr ⟨c, d :: t, rfl, ?_⟩⟩)
      unfold rdB1
      split
      · rename_i e; simp at e; exact absurd e.1 hc
      · rename_i e; simp at e; exact absurd e.1 hc
      · rename_i e; simp at e; exact absurd e.1 hc
      · rename_i e; simp at e; obtain ⟨rfl, -⟩ := e; rfl
      · rename_i e; cases e

set_option maxHeartbeats 1000000 in
set_option maxRecDepth 100000 in
theorem rb_oth (l : List UInt8) (ho : oth l) (hw : (l = [] ∧ rdB1 l = (0, 0)) ∨ ∃ c t, l = c :: t ∧ rdB1 l = if kS c && c.toNat != 34 && c.toNat != 92 then (c, 1) else (0, 0)) (w : World) : Calls Tryz.prog 118 #[.string (S l)] w fun e w' => e = .returned (rbA (rdB1 l)) ∧ w' = w := by
  obtain ⟨h1, h2, h3⟩ := ho
  have CA := hp_any l [92, 34]
  have CB := hp_any l [92, 92]
  have CC := hp_any l [92, 120]
  rw [h1] at CA
  rw [h2] at CB
  have hz := S_size l
  have h3' : (∃ b, List.isPrefixOf [92, 120] l = b ∧ (b = false ∨ (b = true ∧ ¬ (4 : Int) ≤ (l.length : Int)))) := by
    cases q : List.isPrefixOf [92, 120] l with
    | false => exact ⟨_, rfl, .inl rfl⟩
    | true =>
      rcases h3 with h3 | h3
      · rw [q] at h3; cases h3
      · exact ⟨_, rfl, .inr ⟨rfl, by omega⟩⟩
  obtain ⟨b, hb, hbb⟩ := h3'
  rw [hb] at CC
  clear h1 h2 h3 hb
  unfold rbA
  rcases hw with ⟨hl, hr⟩ | ⟨c, t, hl, hr⟩
  · have HR : Hid (rdB1 l = (0, 0)) := hr
    have he : ((S l).toList.isEmpty) = true := by rw [S_toList, hl]; rfl
    have he2 : (S l).toList = [] := by rw [S_toList, hl]
    clear hr hl
    rcases hbb with rfl | ⟨rfl, h4⟩
    all_goals
      go_enter Tryz.func118, Tryz.ntmps118
      go_wp2_with (first
        | (go_at_call 121; refine (CA _).mono ?_; rintro e w1 ⟨rfl, hw1⟩; rw [hw1]; clear hw1 CA)
        | (go_at_call 121; refine (CB _).mono ?_; rintro e w1 ⟨rfl, hw1⟩; rw [hw1]; clear hw1 CB)
        | (go_at_call 121; refine (CC _).mono ?_; rintro e w1 ⟨rfl, hw1⟩; rw [hw1]; clear hw1 CC))
      go_ret2
      rw [HR.out]
      exact ⟨rfl, rfl⟩
  · have hg0 : ∀ (h : 0 < (S l).size), (S l)[0]'h = c := fun h => by rw [S_at l 0 (by rw [← hz]; exact h) h]; simp [hl]
    have hg1 : 0 < l.length := by rw [hl]; simp
    have hg2 : (0 : Int) < (l.length : Int) := by omega
    have he : ((S l).toList.isEmpty) = false := by rw [S_toList, hl]; rfl
    have CS := shown_any c
    have HR : Hid (rdB1 l = if kS c && c.toNat != 34 && c.toNat != 92 then (c, 1) else (0, 0)) := hr
    have hcl : c.toNat < 256 := c.toNat_lt
    clear hr hl
    cases hk : kS c with
    | false =>
      rw [hk] at CS HR
      rcases hbb with rfl | ⟨rfl, h4⟩
      all_goals
        go_enter Tryz.func118, Tryz.ntmps118
        go_wp2_with (first
          | (go_at_call 121; refine (CA _).mono ?_; rintro e w1 ⟨rfl, hw1⟩; rw [hw1]; clear hw1 CA)
          | (go_at_call 121; refine (CB _).mono ?_; rintro e w1 ⟨rfl, hw1⟩; rw [hw1]; clear hw1 CB)
          | (go_at_call 121; refine (CC _).mono ?_; rintro e w1 ⟨rfl, hw1⟩; rw [hw1]; clear hw1 CC)
          | (go_at_call 139; refine (CS _).mono ?_; rintro e w1 ⟨rfl, hw1⟩; rw [hw1]; clear hw1 CS))
        go_ret2
        rw [HR.out]
        exact ⟨rfl, rfl⟩
    | true =>
      rw [hk] at CS HR
      by_cases q1 : c.toNat = 34
      · have q1' : ((c.toNat : Int) != 34) = false := by rw [q1]; rfl
        have HR2 : Hid (rdB1 l = (0, 0)) := by show _ = _; rw [HR.out, q1]; rfl
        clear q1 hk
        rcases hbb with rfl | ⟨rfl, h4⟩
        all_goals
          go_enter Tryz.func118, Tryz.ntmps118
          go_wp2_with (first
            | (go_at_call 121; refine (CA _).mono ?_; rintro e w1 ⟨rfl, hw1⟩; rw [hw1]; clear hw1 CA)
            | (go_at_call 121; refine (CB _).mono ?_; rintro e w1 ⟨rfl, hw1⟩; rw [hw1]; clear hw1 CB)
            | (go_at_call 121; refine (CC _).mono ?_; rintro e w1 ⟨rfl, hw1⟩; rw [hw1]; clear hw1 CC)
            | (go_at_call 139; refine (CS _).mono ?_; rintro e w1 ⟨rfl, hw1⟩; rw [hw1]; clear hw1 CS))
          go_ret2
          rw [HR2.out]
          exact ⟨rfl, rfl⟩
      · have q1' : ((c.toNat : Int) != 34) = true := bne_iff_ne.2 (by omega)
        by_cases q2 : c.toNat = 92
        · have q2' : ((c.toNat : Int) != 92) = false := by rw [q2]; rfl
          have HR2 : Hid (rdB1 l = (0, 0)) := by show _ = _; rw [HR.out, q2]; rfl
          clear q1 q2 hk
          rcases hbb with rfl | ⟨rfl, h4⟩
          all_goals
            go_enter Tryz.func118, Tryz.ntmps118
            go_wp2_with (first
              | (go_at_call 121; refine (CA _).mono ?_; rintro e w1 ⟨rfl, hw1⟩; rw [hw1]; clear hw1 CA)
              | (go_at_call 121; refine (CB _).mono ?_; rintro e w1 ⟨rfl, hw1⟩; rw [hw1]; clear hw1 CB)
              | (go_at_call 121; refine (CC _).mono ?_; rintro e w1 ⟨rfl, hw1⟩; rw [hw1]; clear hw1 CC)
              | (go_at_call 139; refine (CS _).mono ?_; rintro e w1 ⟨rfl, hw1⟩; rw [hw1]; clear hw1 CS))
            go_ret2
            rw [HR2.out]
            exact ⟨rfl, rfl⟩
        · have q2' : ((c.toNat : Int) != 92) = true := bne_iff_ne.2 (by omega)
          have HR2 : Hid (rdB1 l = (c, 1)) := by show _ = _; rw [HR.out, if_pos (by simp [q1, q2])]
          clear q1 q2 hk
          rcases hbb with rfl | ⟨rfl, h4⟩
          all_goals
            go_enter Tryz.func118, Tryz.ntmps118
            go_wp2_with (first
              | (go_at_call 121; refine (CA _).mono ?_; rintro e w1 ⟨rfl, hw1⟩; rw [hw1]; clear hw1 CA)
              | (go_at_call 121; refine (CB _).mono ?_; rintro e w1 ⟨rfl, hw1⟩; rw [hw1]; clear hw1 CB)
              | (go_at_call 121; refine (CC _).mono ?_; rintro e w1 ⟨rfl, hw1⟩; rw [hw1]; clear hw1 CC)
              | (go_at_call 139; refine (CS _).mono ?_; rintro e w1 ⟨rfl, hw1⟩; rw [hw1]; clear hw1 CS))
            go_ret2
            rw [HR2.out]
            exact ⟨rfl, rfl⟩
theorem readByte_any (l : List UInt8) (w : World) : Calls Tryz.prog 118 #[.string (S l)] w fun e w' => e = .returned (rbA (rdB1 l)) ∧ Below w.heap.size w w' := by
  rcases rb_ways l with ⟨c, t, rfl, hc⟩ | ⟨a, b, t, rfl⟩ | ⟨h1, h2⟩
  · have e : rdB1 (92 :: c :: t) = (c, 2) := by rcases hc with rfl | rfl <;> rfl
    rw [e]
    exact (rb_esc c t hc w).mono fun e w' h => ⟨h.1, by rw [h.2]; exact Below.refl _ _⟩
  · exact rb_hex a b t w
  · exact (rb_oth l h1 h2 w).mono fun e w' h => ⟨h.1, by rw [h.2]; exact Below.refl _ _⟩
end Go.Proofs.YtpbfdaijnndilaaGreatDoor.x10
namespace Go.Proofs.YtpbfdaijnndilaaGreatDoor.x10
open Go.RowKit Go.Shelf Go.Sort
open Go.Lib hiding intOf

theorem rd_le (l : List UInt8) : (rdB1 l).2 ≤ l.length := by
  rcases rb_ways l with ⟨c, t, rfl, hc⟩ | ⟨a, b, t, rfl⟩ | ⟨-, ⟨rfl, h⟩ | ⟨c, t, rfl, h⟩⟩
  · rcases hc with rfl | rfl <;> (show 2 ≤ _; simp)
  · show (match hexV a, hexV b with
      | some x, some y => if kS (UInt8.ofNat (16 * x + y)) then ((0 : UInt8), 0) else (UInt8.ofNat (16 * x + y), 4)
      | _, _ => (0, 0)).2 ≤ _
    split
    · split <;> simp
    · simp
  · rw [h]; simp
  · rw [h]; split <;> simp
theorem txs_stop {n : Nat} {acc l : List UInt8} (h : (rdB1 l).2 = 0) : txs n acc l = (acc, l) := by
  cases n with
  | zero => rfl
  | succ n => rw [txs, if_pos h]
theorem txs_go {n : Nat} {acc l : List UInt8} (h : (rdB1 l).2 ≠ 0) : txs (n + 1) acc l = txs n (acc ++ [(rdB1 l).1]) (l.drop (rdB1 l).2) := by rw [txs, if_neg h]
/-- what a text comes to -/
def txtR (l : List UInt8) (st : Rs) : Ot Rs := match (txs l.length [] (l.drop 1)).2 with
  | 34 :: q => .ok { st with now := { st.now with kind := 2, v := (3, 0, (txs l.length [] (l.drop 1)).1) }, beh := st.beh + (l.length - q.length) }
  | _ => .no 10 st.now.at'
/-- what stands in the loop -/
structure Tl (w wr : World) (l acc : List UInt8) (i : Nat) : Prop where
  bd : Bd9 wr w.heap.size w.heap.size acc
  bl : Below w.heap.size w wr
  eq : ∃ k, txs k acc (l.drop i) = txs l.length [] (l.drop 1) ∧ l.length - i ≤ k
  al : acc.length ≤ i
set_option maxHeartbeats 500000 in
set_option maxRecDepth 100000 in
theorem text_any {w : World} {B b : Nat} {s : List UInt8} {st : Rs} {pv : Value} (h : Rm w B b s st pv) (l : List UInt8) (hl : l.length ≤ 512) (hl1 : 1 ≤ l.length) (hb : st.beh ≤ 512) : Calls Tryz.prog 97 #[.pointer (some ⟨b, 0, none⟩), .string (S l)] w (Rp w B b s pv (txtR l st)) := by
  have hz := S_size l
  have hbl := h.ob.lt
  have HF : Hid (∀ W, Below w.heap.size w W → W.cell? ⟨b, 1, none⟩ = some (.int .i64 st.now.kind) ∧ W.cell? ⟨b, 4, none⟩ = some (.int .i64 st.now.v.1) ∧ W.cell? ⟨b, 5, none⟩ = some (.int .i64 st.now.v.2.1) ∧ W.cell? ⟨b, 6, none⟩ = some (.string (S st.now.v.2.2)) ∧ W.cell? ⟨b, 7, none⟩ = some (.int .i64 (st.beh : Int)) ∧ (∀ i, W.frozen? ⟨b, i, none⟩ = false) ∧ b < W.heap.size) := fun W hW => by
    have o := (h.below hW).ob
    exact ⟨o.c 1, o.c 4, o.c 5, o.c 6, o.c 7, o.f, o.lt⟩
  have HRF : Hid (∀ W, Below w.heap.size w W → Calls Tryz.prog 49 #[.pointer (some ⟨b, 0, none⟩)] W fun e w' => e = .panicked (wrg 10 st.now.at') ∧ w' = W) := fun W hW => refuse_any (h.below hW)
  have HH : Hid (Rm w B b s st pv) := h
  have HX : Hid (∀ i, (S l).extract i l.length = S (l.drop i)) := fun i => S_drop l i
  have hx1 := HX.out 1
  have CR := readByte_any (l.drop 1)
  obtain ⟨l1, hl1e⟩ : ∃ l1, l.drop 1 = l1 := ⟨_, rfl⟩
  have HL1 : Hid (l.drop 1 = l1) := hl1e
  rw [hl1e] at hx1 CR
  obtain ⟨c1, n1, hcn1⟩ : ∃ c n, rdB1 l1 = (c, n) := ⟨_, _, rfl⟩
  have HC1 : Hid (rdB1 l1 = (c1, n1)) := hcn1
  rw [hcn1] at CR
  clear hl1e hcn1
  have T0 : Hid (Tl w (w.alloc (.cells #[.pointer none, .slice none 0 0] 143)) l [] 1) := ⟨Bd9.new w, (Below.refl _ w).alloc (Nat.le_refl _) _, ⟨l.length, rfl, by omega⟩, by simp⟩
  have h11 : (1 : Int) ≤ (l.length : Int) := by omega
  unfold rbA at CR
  simp only at CR
  clear h
  go_enter Tryz.func97, Tryz.ntmps97
  go_wp2_with (go_at_call 118; refine (CR _).mono ?_; rintro e w1 ⟨rfl, b1⟩; (have T1 : Hid (Tl w w1 l [] 1) := ⟨T0.out.bd.up b1, bel_of T0.out.bl b1 (Nat.le_refl _), T0.out.eq, T0.out.al⟩); clear b1 CR)
  go_loopw [5, 6, 7] (fun v5 v6 v7 wr => ∃ (i : Nat) (acc : List UInt8), v5 = .int .i64 (i : Int) ∧ v6 = .int .u8 ((rdB1 (l.drop i)).1.toNat : Int) ∧ v7 = .int .i64 ((rdB1 (l.drop i)).2 : Int) ∧ i ≤ l.length ∧ 1 ≤ i ∧ Hid (Tl w wr l acc i)) (fun v5 _ _ _ => l.length - (intOf v5).toNat)
  case atStart => exact ⟨1, [], rfl, by rw [HL1.out, HC1.out], by rw [HL1.out, HC1.out], hl1, Nat.le_refl _, T1⟩
  case round =>
    obtain ⟨i, acc, rfl, rfl, rfl, hi, hi1, HT⟩ := hrel
    have hrl := rd_le (l.drop i)
    rw [List.length_drop] at hrl
    have HST := txs_stop (n := 0) (acc := acc) (l := l.drop i)
    obtain ⟨c, n, hcn⟩ : ∃ c n, rdB1 (l.drop i) = (c, n) := ⟨_, _, rfl⟩
    have HCN : Hid (rdB1 (l.drop i) = (c, n)) := hcn
    rw [hcn] at hrl ⊢
    simp only at hrl ⊢
    have hi0 : (0 : Int) ≤ (i : Int) := by omega
    have hi' : (i : Int) ≤ (l.length : Int) := by omega
    clear hcn HST T0 T1 hx1 HC1 HL1
    by_cases hn : n = 0
    · subst hn
      have hng : ¬ (0 : Int) < 0 := by omega
      have HE : Hid (txs l.length [] (l.drop 1) = (acc, l.drop i)) := by
        obtain ⟨k, h1, -⟩ := HT.out.eq
        show _ = _
        rw [← h1, txs_stop (by rw [HCN.out])]
      by_cases hiL : i = l.length
      · have HR : Hid (txtR l st = .no 10 st.now.at') := by show _ = _; unfold txtR; rw [HE.out, hiL, List.drop_length]
        have hq : ((i : Int) == (l.length : Int)) = true := by rw [hiL]; simp
        have CF := HRF.out _ HT.out.bl
        have HB : Hid (Below w.heap.size w wr) := HT.out.bl
        clear HE HT hiL
        go_wp2_with (go_at_call 49; refine CF.mono ?_; rintro e w2 ⟨rfl, hw2⟩; rw [hw2]; clear hw2)
        rw [HR.out]
        exact ⟨rfl, rfl, Ch.of_below HB.out⟩
      · have hlt : i < l.length := by omega
        have hlt' : (i : Int) < (l.length : Int) := by omega
        have hq : ((i : Int) == (l.length : Int)) = false := by rw [beq_eq_false_iff_ne]; omega
        obtain ⟨x, hx⟩ : ∃ x, l[i] = x := ⟨_, rfl⟩
        have hgi : ∀ (h : i < (S l).size), (S l)[i]'h = x := fun h => (S_at l i hlt h).trans hx
        have hxl : x.toNat < 256 := x.toNat_lt
        have hdr : l.drop i = x :: l.drop (i + 1) := by rw [List.drop_eq_getElem_cons hlt, hx]
        by_cases h34 : x = 34
        · have h34' : ((x.toNat : Int) != 34) = false := by rw [h34]; rfl
          have HR : Hid (txtR l st = .ok { st with now := { st.now with kind := 2, v := (3, 0, acc) }, beh := st.beh + (i + 1) }) := by
            show _ = _
            unfold txtR
            rw [HE.out, hdr, h34]
            simp only
            rw [List.length_drop, show l.length - (l.length - (i + 1)) = i + 1 by omega]
          have HFI : Hid (∀ W, Below w.heap.size w W → Rp w B b s pv (txtR l st) (.returned (.tuple #[])) (((((W.setCell ⟨b, 1, none⟩ (.int .i64 2)).setCell ⟨b, 4, none⟩ (.int .i64 3)).setCell ⟨b, 5, none⟩ (.int .i64 0)).setCell ⟨b, 6, none⟩ (.string (S acc))).setCell ⟨b, 7, none⟩ (.int .i64 ((st.beh : Int) + ((i : Int) + 1))))) := fun W hW => by
            rw [HR.out]
            have hk := HH.out.below hW
            obtain ⟨k1, k2⟩ := hk.sets (st' := { st with now := { st.now with kind := 2, v := (3, 0, acc) }, beh := st.beh + (i + 1) }) (chAt (chAt (chAt (chAt (chAt (chRe W b) 1 (.int .i64 2)) 4 (.int .i64 3)) 5 (.int .i64 0)) 6 (.string (S acc))) 7 (.int .i64 ((st.beh : Int) + ((i : Int) + 1)))) (by
              have := ((((hk.ob.set 1 (.int .i64 2)).set 4 (.int .i64 3)).set 5 (.int .i64 0)).set 6 (.string (S acc))).set 7 (.int .i64 ((st.beh : Int) + ((i : Int) + 1)))
              simpa [rcs] using this) rfl
            exact ⟨rfl, pv, k1, (Lf.of_below b pv hW).trans k2⟩
          have CS := bStr HT.out.bd
          have CV := text_v acc
          have HB : Hid (Below w.heap.size w wr) := HT.out.bl
          clear HE hdr hx h34 HR HT HCN
          go_wp2_with (first
            | (go_at_call 120; refine CS.mono ?_; rintro e w2 ⟨rfl, k2⟩; (have B2 : Hid (Below w.heap.size w w2) := HB.out.trans k2.bel); clear k2 CS)
            | (go_at_call 112; refine (CV _).mono ?_; rintro e w3 ⟨rfl, b3⟩; (have B3 : Hid (Below w.heap.size w w3) := bel_of B2.out b3 (Nat.le_refl _)); obtain ⟨d1, d4, d5, d6, d7, df, dl⟩ := HF.out w3 B3.out; have e1 := df 1; have e4 := df 4; have e5 := df 5; have e6 := df 6; have e7 := df 7; clear b3 df))
          go_end0
          exact HFI.out _ B3.out
        · have h34n : x.toNat ≠ 34 := fun e => h34 (UInt8.toNat_inj.1 e)
          have h34' : ((x.toNat : Int) != 34) = true := bne_iff_ne.2 (by omega)
          have HR : Hid (txtR l st = .no 10 st.now.at') := by
            show _ = _
            unfold txtR
            rw [HE.out, hdr]
            simp only
            split
            · rename_i e
              simp at e
              exact absurd e.1 h34
            · rfl
          have CF := HRF.out _ HT.out.bl
          have HB : Hid (Below w.heap.size w wr) := HT.out.bl
          clear HE HT hdr hx h34 HCN h34n
          go_wp2_with (go_at_call 49; refine CF.mono ?_; rintro e w2 ⟨rfl, hw2⟩; rw [hw2]; clear hw2)
          rw [HR.out]
          exact ⟨rfl, rfl, Ch.of_below HB.out⟩
    · have hng : (0 : Int) < (n : Int) := by omega
      have CB := wByte HT.out.bd c (by have := HT.out.al; omega)
      have hin : i + n ≤ l.length := by omega
      have hin' : (i : Int) + (n : Int) ≤ (l.length : Int) := by omega
      have hin0 : (0 : Int) ≤ (i : Int) + (n : Int) := by omega
      have hx2 := HX.out (i + n)
      have CR := readByte_any (l.drop (i + n))
      obtain ⟨l2, hl2e⟩ : ∃ l2, l.drop (i + n) = l2 := ⟨_, rfl⟩
      have HL2 : Hid (l.drop (i + n) = l2) := hl2e
      rw [hl2e] at hx2 CR
      obtain ⟨c2, n2, hcn2⟩ : ∃ c n, rdB1 l2 = (c, n) := ⟨_, _, rfl⟩
      have HC2 : Hid (rdB1 l2 = (c2, n2)) := hcn2
      rw [hcn2] at CR
      clear hl2e hcn2
      have HNX : Hid (∀ W, Bd9 W w.heap.size w.heap.size (acc ++ [c]) → Below w.heap.size w W → Tl w W l (acc ++ [c]) (i + n)) := fun W q1 q2 => by
        obtain ⟨k, h1, h2⟩ := HT.out.eq
        refine ⟨q1, q2, ⟨k - 1, ?_, by omega⟩, by rw [List.length_append, List.length_singleton]; have := HT.out.al; omega⟩
        obtain ⟨k', rfl⟩ : ∃ k', k = k' + 1 := ⟨k - 1, by omega⟩
        rw [txs_go (by rw [HCN.out]; exact hn), HCN.out] at h1
        rw [← h1, List.drop_drop, Nat.add_sub_cancel]
      have HB : Hid (Below w.heap.size w wr) := HT.out.bl
      unfold rbA at CR
      simp only at CR
      clear HT HCN hn
      go_wp2_with (first
        | (go_at_call 119; refine CB.mono ?_; rintro e w2 ⟨rfl, h2, k2⟩; (have T2 : Hid (Tl w w2 l (acc ++ [c]) (i + n)) := HNX.out w2 h2 (HB.out.trans k2.bel)); clear h2 k2 CB)
        | (go_at_call 118; refine (CR _).mono ?_; rintro e w3 ⟨rfl, b3⟩; (have T3 : Hid (Tl w w3 l (acc ++ [c]) (i + n)) := ⟨T2.out.bd.up b3, bel_of T2.out.bl b3 (Nat.le_refl _), T2.out.eq, T2.out.al⟩); clear b3 CR))
      go_roundw
      case rel => exact ⟨i + n, acc ++ [c], by simp, by rw [HL2.out, HC2.out], by rw [HL2.out, HC2.out], hin, by omega, T3⟩
      case measure => simp [intOf]; omega
end Go.Proofs.YtpbfdaijnndilaaGreatDoor.x10
