/-
  Package run: a run that was opened: Open, Len, Blocks, Get.
-/
import Derived.Test.YtiaeicfmdnmeeaaH7Read
import Derived.Test.YtiaeicfmdnmeeaaH7Find
import Derived.Test.YtiaeicfmdnmeeaaH7Build
namespace Go.Proofs.Ytiaeicfmdnmeeaa
open Go.RowKit Go.Shelf Go.Sort
open Go.Lib hiding intOf

theorem flt_above : ∀ {l : List R7} {k : List UInt8}, flt (some k) l = 0 → ∀ x ∈ l, lt (S k) (S x.1) = true
  | [], _, _, x, hx => by cases hx
  | y :: t, k, h, x, hx => by
    rw [flt] at h
    by_cases h0 : chk (some k) y = 0
    · rw [if_neg (by simpa using h0)] at h
      have hy : lt (S k) (S y.1) = true := by
        have hm := chk_may h0
        unfold chk at h0
        rw [if_neg (by simpa using hm)] at h0
        simp only at h0
        by_cases hl : lt (S k) (S y.1) = true
        · exact hl
        · rw [if_neg hl] at h0; cases h0
      rcases List.mem_cons.1 hx with rfl | hx
      · exact hy
      · exact lt_trans hy (flt_above h x hx)
    · rw [if_pos h0] at h; exact absurd h h0
theorem flt_rise : ∀ {l : List R7} {a : Option (List UInt8)}, flt a l = 0 → Rise (ks l)
  | [], _, _ => List.Pairwise.nil
  | y :: t, a, h => by
    rw [flt] at h
    by_cases h0 : chk a y = 0
    · rw [if_neg (by simpa using h0)] at h
      refine List.pairwise_cons.2 ⟨?_, flt_rise h⟩
      intro e he
      obtain ⟨x, hx, rfl⟩ := List.mem_map.1 he
      exact flt_above h x hx
    · rw [if_pos h0] at h; exact absurd h h0
/-- a run in block r -/
structure Ru (w : World) (B r : Nat) (l : List R7) (n : Nat) (v : Value) (b1 b2 : Nat) : Prop where
  hd : w.heap[r]? = some (.cells #[v, .int .i64 (n : Int), .func (.func 44) #[] #[.pointer (some ⟨b1, 0, none⟩), .pointer (some ⟨b2, 0, none⟩)]] 63 (0, 0))
  x1 : Bx w b1 v 57
  x2 : Bx w b2 (.func (.func 42) #[] #[]) 100
  row : w.ownsRow B 76 3 v l.length (hcs l)
  ri : Rise (ks l)
  le : l.length ≤ 1048576
def ruf (r b1 b2 : Nat) (v : Value) (k : Nat) : Prop := k = r ∨ k = b1 ∨ k = b2 ∨ v.ownBlock = some k
section
variable {w w' : World} {B r n b1 b2 : Nat} {l : List R7} {v : Value}
theorem Ru.kq (h : Ru w B r l n v b1 b2) (hk : Kq (ruf r b1 b2 v) w w') : Ru w' B r l n v b1 b2 :=
  ⟨hk.2 _ _ (.inl rfl) h.hd rfl, kq_bx hk (.inr (.inl rfl)) h.x1, kq_bx hk (.inr (.inr (.inl rfl))) h.x2, kq_row hk h.row (fun _ hk => .inr (.inr (.inr hk))), h.ri, h.le⟩
theorem Ru.below (h : Ru w B r l n v b1 b2) (hb : Below w.heap.size w w') : Ru w' B r l n v b1 b2 := h.kq (Kq.of_below hb)
theorem Ru.lt (h : Ru w B r l n v b1 b2) {k : Nat} (hk : ruf r b1 b2 v k) : k < w.heap.size := by
  rcases hk with rfl | rfl | rfl | hk
  · exact (Array.getElem?_eq_some_iff.1 h.hd).1
  · exact h.x1.lt
  · exact h.x2.lt
  · exact row_far h.row hk
theorem Ru.c0 (h : Ru w B r l n v b1 b2) : w.cell? ⟨r, 0, none⟩ = some v := by simp [World.cell?, h.hd]
theorem Ru.c1 (h : Ru w B r l n v b1 b2) : w.cell? ⟨r, 1, none⟩ = some (.int .i64 (n : Int)) := by simp [World.cell?, h.hd]
theorem Ru.c2 (h : Ru w B r l n v b1 b2) : w.cell? ⟨r, 2, none⟩ = some (.func (.func 44) #[] #[.pointer (some ⟨b1, 0, none⟩), .pointer (some ⟨b2, 0, none⟩)]) := by simp [World.cell?, h.hd]
end

set_option maxHeartbeats 1000000 in
theorem find_any {w : World} {B r n b1 b2 : Nat} {l : List R7} {v : Value} (h : Ru w B r l n v b1 b2) (k : ByteArray) :
    Calls Try.prog 44 #[.string k, .pointer (some ⟨b1, 0, none⟩), .pointer (some ⟨b2, 0, none⟩)] w fun e w' => e = .returned (.tuple #[.int .i64 (at7 l k : Int), .bool (is7 l k)]) ∧ Below w.heap.size w w' := by
  have HS := search_any h.row h.ri (by have := h.le; omega) k
  obtain ⟨va, vc, rfl, -⟩ := row_slice h.row
  have c1 := h.x1.cell
  have c2 := h.x2.cell
  clear h
  go_enter Try.func44, Try.ntmps44
  go_wp2_with (go_at_call 45; refine HS.mono ?_; rintro e w2 ⟨rfl, hb2⟩; have HB : Hid _ := hb2; clear hb2)
  go_ret2
  exact ⟨rfl, HB.out⟩

set_option maxHeartbeats 1000000 in
theorem finder_any {w : World} {v : Value} (hv : ∃ a n c, v = .slice a n c) : Calls Try.prog 23 #[v] w fun e w' => e = .returned (.func (.func 44) #[] #[.pointer (some ⟨w.heap.size, 0, none⟩), .pointer (some ⟨w.heap.size + 1, 0, none⟩)]) ∧ Bx w' w.heap.size v 57 ∧ Bx w' (w.heap.size + 1) (.func (.func 42) #[] #[]) 100 ∧ Below w.heap.size w w' ∧ w'.heap.size = w.heap.size + 2 := by
  obtain ⟨a, n, c, rfl⟩ := hv
  have hmf : ∀ (fn : Fn) (first cap : Array Value) (w : World), (Instr.makeFunc fn first cap).run Try.prog w = .ok (.func fn first cap) w := fun _ _ _ _ => rfl
  have hst := st_fn (w.alloc (.cells #[.slice a n c] 57)) 100 (.func 42) #[]
  rw [World.size_alloc] at hst
  have HR : Hid (Bx ((w.alloc (.cells #[.slice a n c] 57)).alloc (.cells #[.func (.func 42) #[] #[]] 100)) w.heap.size (.slice a n c) 57 ∧ Bx ((w.alloc (.cells #[.slice a n c] 57)).alloc (.cells #[.func (.func 42) #[] #[]] 100)) (w.heap.size + 1) (.func (.func 42) #[] #[]) 100) := by
    refine ⟨(Bx.new w _ _).alloc _, ?_⟩
    have := Bx.new (w.alloc (.cells #[.slice a n c] 57)) (.func (.func 42) #[] #[]) 100
    rwa [World.size_alloc] at this
  go_enter Try.func23, Try.ntmps23
  go_wp2
  go_ret
  exact ⟨rfl, HR.out.1, HR.out.2, ((Below.refl _ w).alloc (Nat.le_refl _) _).alloc (by simp) _, by simp⟩

/-- what Open comes to -/
def OpR (w : World) (b : List UInt8) (e : Ending) (w' : World) : Prop :=
  (∃ bs r v b1 b2, b.length ≤ 1048576 ∧ Rn b bs ∧ e = .returned (.tuple #[.pointer (some ⟨r, 0, none⟩), .int .i64 0]) ∧ Ru w' w.heap.size r bs.flatten bs.length v b1 b2 ∧ ∀ k, ruf r b1 b2 v k → w.heap.size ≤ k) ∨
  ((¬ (b.length ≤ 1048576 ∧ ∃ bs, Rn b bs)) ∧ e = .returned (.tuple #[.pointer none, .int .i64 3]))

set_option maxHeartbeats 2000000 in
theorem Open_any (b : List UInt8) (hb : b.length ≤ 4611686018427387904) (w : World) :
    Calls Try.prog 8 #[.string (S b)] w fun e w' => Below w.heap.size w w' ∧ OpR w b e w' := by
  have hs := S_size b
  by_cases hl : 1048576 < b.length
  · have hl' : (1048576 : Int) < (b.length : Int) := by omega
    have HN : Hid (¬ (b.length ≤ 1048576 ∧ ∃ bs, Rn b bs)) := fun h => by omega
    go_enter Try.func8, Try.ntmps8
    go_wp2
    go_ret2
    exact ⟨Below.refl _ _, .inr ⟨HN.out, rfl⟩⟩
  · have hl' : decide ((1048576 : Int) < (b.length : Int)) = false := decide_eq_false (by omega)
    have HR := read_any b (by omega) w
    go_enter Try.func8, Try.ntmps8
    go_wp2_with fail
    refine HR.mono ?_
    clear HR
    rintro e w2 ⟨hb2, ⟨bs, v, hr, rfl, hrow⟩ | ⟨hN, rfl⟩⟩
    · obtain ⟨tot, HTT⟩ : ∃ tot, Hid (bs.flatten.length = tot) := ⟨_, show _ = _ from rfl⟩
      obtain ⟨va, vc, hv, -⟩ := row_slice hrow
      rw [HTT.out] at hv
      subst hv
      have HF := finder_any (w := w2) (v := .slice va tot vc) ⟨_, _, _, rfl⟩
      have H : Hid (Below w.heap.size w w2 ∧ Rn b bs ∧ w2.ownsRow w.heap.size 76 3 (.slice va tot vc) bs.flatten.length (hcs bs.flatten)) := ⟨hb2, hr, hrow⟩
      clear hb2 hr hrow
      go_wp2_with (go_at_call 23; refine HF.mono ?_; rintro e w3 ⟨rfl, x1, x2, hb3, hs3⟩; have H3 : Hid (Bx w3 w2.heap.size (.slice va tot vc) 57 ∧ Bx w3 (w2.heap.size + 1) (.func (.func 42) #[] #[]) 100 ∧ Below w2.heap.size w2 w3) := ⟨x1, x2, hb3⟩; clear x1 x2 hb3 hs3)
      go_ret2
      obtain ⟨hb2, hr, hrow⟩ := H.out
      obtain ⟨x1, x2, hb3⟩ := H3.out
      have hB3 : Below w.heap.size w w3 := bel_of hb2 hb3 (Nat.le_refl _)
      have hs2 := hb2.size
      have hs3 := hb3.size
      refine ⟨hB3.alloc hB3.size _, .inl ⟨bs, w3.heap.size, .slice va tot vc, w2.heap.size, w2.heap.size + 1, by omega, hr, rfl, ⟨heap_alloc_new w3 _, x1.alloc _, x2.alloc _, ?_, flt_rise hr.2.2.1, ?_⟩, ?_⟩⟩
      · exact ((show Ch (fun _ => False) w2 w3 from Ch.of_below hb3).row hrow (fun _ _ => id)).alloc _
      · have h1 := flat_len (bs := bs)
        have h2 := congrArg List.length hr.1
        rw [rn_len] at h2
        omega
      · rintro k (rfl | rfl | rfl | hk)
        · omega
        · omega
        · omega
        · exact (row_obj hrow hk).1
    · have HN : Hid (¬ (b.length ≤ 1048576 ∧ ∃ bs, Rn b bs)) := fun h => hN h.2
      have HB : Hid (Below w.heap.size w w2) := hb2
      clear hN hb2
      go_wp2
      go_ret2
      exact ⟨HB.out, .inr ⟨HN.out, rfl⟩⟩

set_option maxHeartbeats 400000 in
theorem Len_nil (w : World) : Calls Try.prog 12 #[.pointer none] w fun e w' => e = .returned (.int .i64 0) ∧ w' = w := by
  go_enter Try.func12, Try.ntmps12
  go_wp2
  go_ret
  exact ⟨rfl, rfl⟩
set_option maxHeartbeats 400000 in
theorem Blocks_nil (w : World) : Calls Try.prog 13 #[.pointer none] w fun e w' => e = .returned (.int .i64 0) ∧ w' = w := by
  go_enter Try.func13, Try.ntmps13
  go_wp2
  go_ret
  exact ⟨rfl, rfl⟩
set_option maxHeartbeats 400000 in
theorem Len_any {w : World} {B r n b1 b2 : Nat} {l : List R7} {v : Value} (h : Ru w B r l n v b1 b2) : Calls Try.prog 12 #[.pointer (some ⟨r, 0, none⟩)] w fun e w' => e = .returned (.int .i64 (l.length : Int)) ∧ w' = w := by
  obtain ⟨va, vc, rfl, -⟩ := row_slice h.row
  have c0 := h.c0
  clear h
  go_enter Try.func12, Try.ntmps12
  go_wp2
  go_ret
  exact ⟨rfl, rfl⟩
set_option maxHeartbeats 400000 in
theorem Blocks_any {w : World} {B r n b1 b2 : Nat} {l : List R7} {v : Value} (h : Ru w B r l n v b1 b2) : Calls Try.prog 13 #[.pointer (some ⟨r, 0, none⟩)] w fun e w' => e = .returned (.int .i64 (n : Int)) ∧ w' = w := by
  have c0 := h.c1
  clear h
  go_enter Try.func13, Try.ntmps13
  go_wp2
  go_ret
  exact ⟨rfl, rfl⟩

/-- a key's cell, and whether it is there -/
def get7 (l : List R7) (k : ByteArray) : (List UInt8 × Bool) × Bool := if is7 l k = true then ((l.getD (at7 l k) ([], [], false)).2, true) else (([], false), false)

set_option maxHeartbeats 1000000 in
theorem Get_nil (k : ByteArray) (w : World) : Calls Try.prog 11 #[.pointer none, .string k] w fun e w' => e = .returned (.tuple #[cv ([], false), .bool false]) ∧ Below w.heap.size w w' := by
  go_enter Try.func11, Try.ntmps11
  go_wp2_with (go_at_call 12; refine (Len_nil _).mono ?_; rintro e w2 ⟨rfl, rfl⟩)
  exact bodyPost_ret (v := .tuple #[.agg #[.string ⟨#[]⟩, .bool false], .bool false]) (by simp [results, Try.results11, go_sem]) rfl ⟨rfl, (Below.refl _ _).alloc (Nat.le_refl _) _⟩
end Go.Proofs.Ytiaeicfmdnmeeaa
