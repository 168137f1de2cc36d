/-
  Package expr's reader: texts.
-/
import Derived.Test.YtpdengbdnijcfaaGreatDoorGExprA
namespace Go.Proofs.YtpdengbdnijcfaaGreatDoor.x10
open Go.RowKit Go.Shelf Go.Sort
open Go.Lib hiding intOf

theorem shown_any : Bt 113 kS := fun c w => by
  unfold kS
  by_cases h1 : 32 ≤ c.toNat
  · have h1' : (32 : Int) ≤ (c.toNat : Int) := by omega
    by_cases h2 : c.toNat ≤ 126
    · have h2' : (c.toNat : Int) ≤ 126 := by omega
      rw [decide_eq_true h1, decide_eq_true h2]
      go_enter Tryz.func113, Tryz.ntmps113
      go_wp2
      go_ret
      exact ⟨rfl, rfl⟩
    · have h2' : ¬ (c.toNat : Int) ≤ 126 := by omega
      rw [decide_eq_true h1, decide_eq_false h2]
      go_enter Tryz.func113, Tryz.ntmps113
      go_wp2
      go_ret
      exact ⟨rfl, rfl⟩
  · have h1' : ¬ (32 : Int) ≤ (c.toNat : Int) := by omega
    rw [decide_eq_false h1]
    go_enter Tryz.func113, Tryz.ntmps113
    go_wp2
    go_ret
    exact ⟨rfl, rfl⟩
def hexL : List UInt8 := [48, 49, 50, 51, 52, 53, 54, 55, 56, 57, 97, 98, 99, 100, 101, 102]
def hexI (c : UInt8) : Int := match hexV c with
  | some a => (a : Int)
  | none => -1
theorem hex_all : ∀ n : Fin 256, Lib.indexByte hexL (UInt8.ofNat n.val) = hexI (UInt8.ofNat n.val) := by decide +kernel
theorem hex_ix (c : UInt8) : Lib.indexByte hexL c = hexI c := by
  have := hex_all ⟨c.toNat, c.toNat_lt⟩
  rwa [UInt8.ofNat_toNat] at this
theorem ib_any (c : UInt8) (w : World) : Calls Tryz.prog 112 #[.string ⟨#[48, 49, 50, 51, 52, 53, 54, 55, 56, 57, 97, 98, 99, 100, 101, 102]⟩, .int .u8 (c.toNat : Int)] w fun e w' => e = .returned (.int .i64 (hexI c)) ∧ w' = w := by
  have := Any.strings_IndexByte ibLay ⟨#[48, 49, 50, 51, 52, 53, 54, 55, 56, 57, 97, 98, 99, 100, 101, 102]⟩ (c.toNat : Int) w
  rw [show ((c.toNat : Int).toNat).toUInt8 = c by simp] at this
  rw [← hex_ix]
  exact this
theorem hexI_le (c : UInt8) : hexI c = -1 ∨ (0 ≤ hexI c ∧ hexI c < 16) := by
  unfold hexI hexV kD
  split
  · rename_i a h
    split at h
    · rename_i hk
      simp only [Bool.and_eq_true, decide_eq_true_eq] at hk
      cases h
      right
      omega
    · split at h
      · cases h
        right
        omega
      · cases h
  · exact .inl rfl
/-- what readByte answers -/
def rbA (x : UInt8 × Nat) : Value := .tuple #[.int .u8 (x.1.toNat : Int), .int .i64 (x.2 : Int)]

set_option maxHeartbeats 1000000 in
set_option maxRecDepth 100000 in
theorem rb_esc (c : UInt8) (t : List UInt8) (hc : c = 34 ∨ c = 92) (w : World) : Calls Tryz.prog 98 #[.string (S (92 :: c :: t))] w fun e w' => e = .returned (rbA (c, 2)) ∧ w' = w := by
  have CA := hp_any (92 :: c :: t) [92, 34]
  have CB := hp_any (92 :: c :: t) [92, 92]
  have hz := S_size (92 :: c :: t)
  have hl : (92 :: c :: t).length = t.length + 2 := rfl
  have hg1 : ∀ (h : 1 < (S (92 :: c :: t)).size), (S (92 :: c :: t))[1]'h = c := fun h => S_at (92 :: c :: t) 1 (by simp) h
  have hg2 : (1 : Int) < ((92 :: c :: t).length : Int) := by omega
  have hg3 : 1 < (92 :: c :: t).length := by omega
  unfold rbA
  simp only
  rcases hc with rfl | rfl
  · rw [show List.isPrefixOf [92, 34] (92 :: 34 :: t) = true by simp [List.isPrefixOf]] at CA
    generalize (92 :: 34 :: t : List UInt8) = L at *
    go_enter Tryz.func98, Tryz.ntmps98
    go_wp2_with (go_at_call 101; refine (CA _).mono ?_; rintro e w1 ⟨rfl, hw1⟩; rw [hw1]; clear hw1 CA)
    go_ret2
    exact ⟨rfl, rfl⟩
  · rw [show List.isPrefixOf [92, 34] (92 :: 92 :: t) = false by simp [List.isPrefixOf]] at CA
    rw [show List.isPrefixOf [92, 92] (92 :: 92 :: t) = true by simp [List.isPrefixOf]] at CB
    generalize (92 :: 92 :: t : List UInt8) = L at *
    go_enter Tryz.func98, Tryz.ntmps98
    go_wp2_with (first
      | (go_at_call 101; refine (CA _).mono ?_; rintro e w1 ⟨rfl, hw1⟩; rw [hw1]; clear hw1 CA)
      | (go_at_call 101; refine (CB _).mono ?_; rintro e w1 ⟨rfl, hw1⟩; rw [hw1]; clear hw1 CB))
    go_ret2
    exact ⟨rfl, rfl⟩

set_option maxHeartbeats 400000 in
set_option maxRecDepth 100000 in
theorem rb_hex (a b : UInt8) (t : List UInt8) (w : World) : Calls Tryz.prog 98 #[.string (S (92 :: 120 :: a :: b :: t))] w fun e w' => e = .returned (rbA (rdB1 (92 :: 120 :: a :: b :: t))) ∧ Below w.heap.size w w' := by
  have CA := hp_any (92 :: 120 :: a :: b :: t) [92, 34]
  have CB := hp_any (92 :: 120 :: a :: b :: t) [92, 92]
  have CC := hp_any (92 :: 120 :: a :: b :: t) [92, 120]
  rw [show List.isPrefixOf [92, 34] (92 :: 120 :: a :: b :: t) = false by simp [List.isPrefixOf]] at CA
  rw [show List.isPrefixOf [92, 92] (92 :: 120 :: a :: b :: t) = false by simp [List.isPrefixOf]] at CB
  rw [show List.isPrefixOf [92, 120] (92 :: 120 :: a :: b :: t) = true by simp [List.isPrefixOf]] at CC
  have hz := S_size (92 :: 120 :: a :: b :: t)
  have hl : (92 :: 120 :: a :: b :: t).length = t.length + 4 := rfl
  have hg1 : ∀ (h : 2 < (S (92 :: 120 :: a :: b :: t)).size), (S (92 :: 120 :: a :: b :: t))[2]'h = a := fun h => S_at (92 :: 120 :: a :: b :: t) 2 (by simp) h
  have hg2 : ∀ (h : 3 < (S (92 :: 120 :: a :: b :: t)).size), (S (92 :: 120 :: a :: b :: t))[3]'h = b := fun h => S_at (92 :: 120 :: a :: b :: t) 3 (by simp) h
  have hg3 : (3 : Int) < ((92 :: 120 :: a :: b :: t).length : Int) := by omega
  have hg4 : 3 < (92 :: 120 :: a :: b :: t).length := by omega
  have hg5 : (2 : Int) < ((92 :: 120 :: a :: b :: t).length : Int) := by omega
  have hg6 : 2 < (92 :: 120 :: a :: b :: t).length := by omega
  have hg7 : (4 : Int) ≤ ((92 :: 120 :: a :: b :: t).length : Int) := by omega
  have IA := ib_any a
  have IB := ib_any b
  have la := hexI_le a
  have lb := hexI_le b
  have HE : Hid (rdB1 (92 :: 120 :: a :: b :: t) = match hexV a, hexV b with
    | some x, some y => if kS (UInt8.ofNat (16 * x + y)) then (0, 0) else (UInt8.ofNat (16 * x + y), 4)
    | _, _ => (0, 0)) := by show _ = _; rfl
  generalize (92 :: 120 :: a :: b :: t : List UInt8) = L at *
  unfold rbA
  go_enter Tryz.func98, Tryz.ntmps98
  go_wp2_with (first
    | (go_at_call 101; refine (CA _).mono ?_; rintro e w1 ⟨rfl, hw1⟩; rw [hw1]; clear hw1 CA)
    | (go_at_call 101; refine (CB _).mono ?_; rintro e w1 ⟨rfl, hw1⟩; rw [hw1]; clear hw1 CB)
    | (go_at_call 101; refine (CC _).mono ?_; rintro e w1 ⟨rfl, hw1⟩; rw [hw1]; clear hw1 CC))
  go_quiet (first
    | (go_at_call_of 112 (Value.int IntKind.u8 (a.toNat : Int)); refine Calls.quiet_of_same (IA _))
    | (go_at_call 112; refine Calls.quiet_of_same (IB _)))
  cases ha : hexV a with
  | none =>
    have ha' : hexI a = -1 := by unfold hexI; rw [ha]
    rw [ha] at HE
    rw [ha']
    clear IA IB la lb ha ha'
    go_wp2
    go_ret2
    rw [HE.out]
    exact ⟨rfl, below_drewN (Below.refl _ _) _⟩
  | some x =>
    have ha' : hexI a = (x : Int) := by unfold hexI; rw [ha]
    have hx : x < 16 := by omega
    rw [ha'] 
    cases hb : hexV b with
    | none =>
      have hb' : hexI b = -1 := by unfold hexI; rw [hb]
      rw [ha, hb] at HE
      rw [hb']
      clear IA IB la lb ha ha' hb hb'
      go_wp2
      go_ret2
      rw [HE.out]
      exact ⟨rfl, below_drewN (Below.refl _ _) _⟩
    | some y =>
      have hb' : hexI b = (y : Int) := by unfold hexI; rw [hb]
      have hy : y < 16 := by omega
      rw [ha, hb] at HE
      rw [hb']
      clear IA IB la lb ha ha' hb hb'
      obtain ⟨c, hc⟩ : ∃ c, UInt8.ofNat (16 * x + y) = c := ⟨_, rfl⟩
      have hcn : c.toNat = 16 * x + y := by rw [← hc, UInt8.toNat_ofNat']; omega
      have HE2 : Hid (rdB1 L = if kS c then (0, 0) else (c, 4)) := by
        show _ = _
        rw [HE.out, ← hc]
      clear HE hc
      have CS := shown_any c
      have hci : (x : Int) * 16 + (y : Int) = (c.toNat : Int) := by rw [hcn]; omega
      have hcl : c.toNat < 256 := c.toNat_lt
      clear hcn
      cases hk : kS c with
      | true =>
        rw [hk] at CS HE2
        go_wp2_with (go_at_call 113; refine (CS _).mono ?_; rintro e w1 ⟨rfl, hw1⟩; rw [hw1]; clear hw1)
        go_ret2
        rw [HE2.out]
        exact ⟨rfl, below_drewN (Below.refl _ _) _⟩
      | false =>
        rw [hk] at CS HE2
        go_wp2_with (go_at_call 113; refine (CS _).mono ?_; rintro e w1 ⟨rfl, hw1⟩; rw [hw1]; clear hw1)
        go_ret2
        rw [HE2.out]
        exact ⟨rfl, below_drewN (Below.refl _ _) _⟩
/-- the rest of what may begin a text's byte -/
def oth (l : List UInt8) : Prop := List.isPrefixOf [92, 34] l = false ∧ List.isPrefixOf [92, 92] l = false ∧ (List.isPrefixOf [92, 120] l = false ∨ l.length < 4)
theorem rb_ways (l : List UInt8) : (∃ c t, l = 92 :: c :: t ∧ (c = 34 ∨ c = 92)) ∨ (∃ a b t, l = 92 :: 120 :: a :: b :: t) ∨ (oth l ∧ ((l = [] ∧ rdB1 l = (0, 0)) ∨ ∃ c t, l = c :: t ∧ rdB1 l = if kS c && c.toNat != 34 && c.toNat != 92 then (c, 1) else (0, 0))) := by
  unfold oth
  match l with
  | [] => exact .inr (.inr ⟨⟨rfl, rfl, .inl rfl⟩, .inl ⟨rfl, rfl⟩⟩)
  | [c] => refine .inr (.inr ⟨⟨by simp [List.isPrefixOf], by simp [List.isPrefixOf], .inr (by simp)⟩, .inr ⟨c, [], rfl, ?_⟩⟩); unfold rdB1; split <;> simp_all
  | c :: d :: t =>
    by_cases hc : c = 92
    · subst hc
      by_cases hd : d = 34 ∨ d = 92
      · exact .inl ⟨d, t, rfl, hd⟩
      · have h1 : d ≠ 34 := fun e => hd (.inl e)
        have h2 : d ≠ 92 := fun e => hd (.inr e)
        by_cases hx : d = 120
        · subst hx
          match t with
          | [] => exact .inr (.inr ⟨⟨by simp [List.isPrefixOf], by simp [List.isPrefixOf], .inr (by simp)⟩, .inr ⟨92, [120], rfl, rfl⟩⟩)
          | [a] => exact .inr (.inr ⟨⟨by simp [List.isPrefixOf], by simp [List.isPrefixOf], .inr (by simp)⟩, .inr ⟨92, [120, a], rfl, rfl⟩⟩)
          | a :: b :: t => exact .inr (.inl ⟨a, b, t, rfl⟩)
        · refine .inr (.inr ⟨⟨by simp [List.isPrefixOf]; exact fun e => h1 e.symm, by simp [List.isPrefixOf]; exact fun e => h2 e.symm, .inl (by simp [List.isPrefixOf]; exact fun e => hx e.symm)⟩, .inr ⟨92, d :: t, rfl, ?_⟩⟩)
          unfold rdB1
          split
          · rename_i e; simp at e; exact absurd e.1 h1
          · rename_i e; simp at e; exact absurd e.1 h2
          · rename_i e; simp at e; exact absurd e.1 hx
          · rename_i e; simp at e; obtain ⟨rfl, -⟩ := e; rfl
          · rename_i e; cases e
    · refine .inr (.inr ⟨⟨by simp [List.isPrefixOf]; exact fun e => absurd e.symm hc, by simp [List.isPrefixOf]; exact fun e => absurd e.symm hc, .inl (by simp [List.isPrefixOf]; exact fun e => absurd e.symm hc)⟩, .inr ⟨c, d :: t, rfl, ?_⟩⟩)
      unfold rdB1
      split
      · rename_i e; simp at e; exact absurd e.1 hc
      · rename_i e; simp at e; exact absurd e.1 hc
      · rename_i e; simp at e; exact absurd e.1 hc
      · rename_i e; simp at e; obtain ⟨rfl, -⟩ := e; rfl
      · rename_i e; cases e

set_option maxHeartbeats 1000000 in
set_option maxRecDepth 100000 in
theorem rb_oth (l : List UInt8) (ho : oth l) (hw : (l = [] ∧ rdB1 l = (0, 0)) ∨ ∃ c t, l = c :: t ∧ rdB1 l = if kS c && c.toNat != 34 && c.toNat != 92 then (c, 1) else (0, 0)) (w : World) : Calls Tryz.prog 98 #[.string (S l)] w fun e w' => e = .returned (rbA (rdB1 l)) ∧ w' = w := by
  obtain ⟨h1, h2, h3⟩ := ho
  have CA := hp_any l [92, 34]
  have CB := hp_any l [92, 92]
  have CC := hp_any l [92, 120]
  rw [h1] at CA
  rw [h2] at CB
  have hz := S_size l
  have h3' : (∃ b, List.isPrefixOf [92, 120] l = b ∧ (b = false ∨ (b = true ∧ ¬ (4 : Int) ≤ (l.length : Int)))) := by
    cases q : List.isPrefixOf [92, 120] l with
    | false => exact ⟨_, rfl, .inl rfl⟩
    | true =>
      rcases h3 with h3 | h3
      · rw [q] at h3; cases h3
      · exact ⟨_, rfl, .inr ⟨rfl, by omega⟩⟩
  obtain ⟨b, hb, hbb⟩ := h3'
  rw [hb] at CC
  clear h1 h2 h3 hb
  unfold rbA
  rcases hw with ⟨hl, hr⟩ | ⟨c, t, hl, hr⟩
  · have HR : Hid (rdB1 l = (0, 0)) := hr
    have he : ((S l).toList.isEmpty) = true := by rw [S_toList, hl]; rfl
    have he2 : (S l).toList = [] := by rw [S_toList, hl]
    clear hr hl
    rcases hbb with rfl | ⟨rfl, h4⟩
    all_goals
      go_enter Tryz.func98, Tryz.ntmps98
      go_wp2_with (first
        | (go_at_call 101; refine (CA _).mono ?_; rintro e w1 ⟨rfl, hw1⟩; rw [hw1]; clear hw1 CA)
        | (go_at_call 101; refine (CB _).mono ?_; rintro e w1 ⟨rfl, hw1⟩; rw [hw1]; clear hw1 CB)
        | (go_at_call 101; refine (CC _).mono ?_; rintro e w1 ⟨rfl, hw1⟩; rw [hw1]; clear hw1 CC))
      go_ret2
      rw [HR.out]
      exact ⟨rfl, rfl⟩
  · have hg0 : ∀ (h : 0 < (S l).size), (S l)[0]'h = c := fun h => by rw [S_at l 0 (by rw [← hz]; exact h) h]; simp [hl]
    have hg1 : 0 < l.length := by rw [hl]; simp
    have hg2 : (0 : Int) < (l.length : Int) := by omega
    have he : ((S l).toList.isEmpty) = false := by rw [S_toList, hl]; rfl
    have CS := shown_any c
    have HR : Hid (rdB1 l = if kS c && c.toNat != 34 && c.toNat != 92 then (c, 1) else (0, 0)) := hr
    have hcl : c.toNat < 256 := c.toNat_lt
    clear hr hl
    cases hk : kS c with
    | false =>
      rw [hk] at CS HR
      rcases hbb with rfl | ⟨rfl, h4⟩
      all_goals
        go_enter Tryz.func98, Tryz.ntmps98
        go_wp2_with (first
          | (go_at_call 101; refine (CA _).mono ?_; rintro e w1 ⟨rfl, hw1⟩; rw [hw1]; clear hw1 CA)
          | (go_at_call 101; refine (CB _).mono ?_; rintro e w1 ⟨rfl, hw1⟩; rw [hw1]; clear hw1 CB)
          | (go_at_call 101; refine (CC _).mono ?_; rintro e w1 ⟨rfl, hw1⟩; rw [hw1]; clear hw1 CC)
          | (go_at_call 113; refine (CS _).mono ?_; rintro e w1 ⟨rfl, hw1⟩; rw [hw1]; clear hw1 CS))
        go_ret2
        rw [HR.out]
        exact ⟨rfl, rfl⟩
    | true =>
      rw [hk] at CS HR
      by_cases q1 : c.toNat = 34
      · have q1' : ((c.toNat : Int) != 34) = false := by rw [q1]; rfl
        have HR2 : Hid (rdB1 l = (0, 0)) := by show _ = _; rw [HR.out, q1]; rfl
        clear q1 hk
        rcases hbb with rfl | ⟨rfl, h4⟩
        all_goals
          go_enter Tryz.func98, Tryz.ntmps98
          go_wp2_with (first
            | (go_at_call 101; refine (CA _).mono ?_; rintro e w1 ⟨rfl, hw1⟩; rw [hw1]; clear hw1 CA)
            | (go_at_call 101; refine (CB _).mono ?_; rintro e w1 ⟨rfl, hw1⟩; rw [hw1]; clear hw1 CB)
            | (go_at_call 101; refine (CC _).mono ?_; rintro e w1 ⟨rfl, hw1⟩; rw [hw1]; clear hw1 CC)
            | (go_at_call 113; refine (CS _).mono ?_; rintro e w1 ⟨rfl, hw1⟩; rw [hw1]; clear hw1 CS))
          go_ret2
          rw [HR2.out]
          exact ⟨rfl, rfl⟩
      · have q1' : ((c.toNat : Int) != 34) = true := bne_iff_ne.2 (by omega)
        by_cases q2 : c.toNat = 92
        · have q2' : ((c.toNat : Int) != 92) = false := by rw [q2]; rfl
          have HR2 : Hid (rdB1 l = (0, 0)) := by show _ = _; rw [HR.out, q2]; rfl
          clear q1 q2 hk
          rcases hbb with rfl | ⟨rfl, h4⟩
          all_goals
            go_enter Tryz.func98, Tryz.ntmps98
            go_wp2_with (first
              | (go_at_call 101; refine (CA _).mono ?_; rintro e w1 ⟨rfl, hw1⟩; rw [hw1]; clear hw1 CA)
              | (go_at_call 101; refine (CB _).mono ?_; rintro e w1 ⟨rfl, hw1⟩; rw [hw1]; clear hw1 CB)
              | (go_at_call 101; refine (CC _).mono ?_; rintro e w1 ⟨rfl, hw1⟩; rw [hw1]; clear hw1 CC)
              | (go_at_call 113; refine (CS _).mono ?_; rintro e w1 ⟨rfl, hw1⟩; rw [hw1]; clear hw1 CS))
            go_ret2
            rw [HR2.out]
            exact ⟨rfl, rfl⟩
        · have q2' : ((c.toNat : Int) != 92) = true := bne_iff_ne.2 (by omega)
          have HR2 : Hid (rdB1 l = (c, 1)) := by show _ = _; rw [HR.out, if_pos (by simp [q1, q2])]
          clear q1 q2 hk
          rcases hbb with rfl | ⟨rfl, h4⟩
          all_goals
            go_enter Tryz.func98, Tryz.ntmps98
            go_wp2_with (first
              | (go_at_call 101; refine (CA _).mono ?_; rintro e w1 ⟨rfl, hw1⟩; rw [hw1]; clear hw1 CA)
              | (go_at_call 101; refine (CB _).mono ?_; rintro e w1 ⟨rfl, hw1⟩; rw [hw1]; clear hw1 CB)
              | (go_at_call 101; refine (CC _).mono ?_; rintro e w1 ⟨rfl, hw1⟩; rw [hw1]; clear hw1 CC)
              | (go_at_call 113; refine (CS _).mono ?_; rintro e w1 ⟨rfl, hw1⟩; rw [hw1]; clear hw1 CS))
            go_ret2
            rw [HR2.out]
            exact ⟨rfl, rfl⟩
theorem readByte_any (l : List UInt8) (w : World) : Calls Tryz.prog 98 #[.string (S l)] w fun e w' => e = .returned (rbA (rdB1 l)) ∧ Below w.heap.size w w' := by
  rcases rb_ways l with ⟨c, t, rfl, hc⟩ | ⟨a, b, t, rfl⟩ | ⟨h1, h2⟩
  · have e : rdB1 (92 :: c :: t) = (c, 2) := by rcases hc with rfl | rfl <;> rfl
    rw [e]
    exact (rb_esc c t hc w).mono fun e w' h => ⟨h.1, by rw [h.2]; exact Below.refl _ _⟩
  · exact rb_hex a b t w
  · exact (rb_oth l h1 h2 w).mono fun e w' h => ⟨h.1, by rw [h.2]; exact Below.refl _ _⟩
end Go.Proofs.YtpdengbdnijcfaaGreatDoor.x10
