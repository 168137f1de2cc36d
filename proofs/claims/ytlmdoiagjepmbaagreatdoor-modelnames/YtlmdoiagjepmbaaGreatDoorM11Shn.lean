/-
  The document's example.
-/
import Derived.Test.YtlmdoiagjepmbaaGreatDoorM11Chk
import Derived.Test.YtlmdoiagjepmbaaGreatDoorM11Bts
import Derived.Test.YtlmdoiagjepmbaaGreatDoorM11Tke
import Derived.Test.YtlmdoiagjepmbaaGreatDoorM11Sam
namespace Go.Proofs.YtlmdoiagjepmbaaGreatDoor.m11
open Go.Proofs.YtlmdoiagjepmbaaGreatDoor.x10
open Go.RowKit Go.Shelf Go.Sort
open Go.Lib hiding intOf

def lineP : Pc := ⟨[108, 105, 110, 101], [⟨1, -1, -1, [115], [], [], 0⟩, ⟨3, -1, -1, [116], [112, 97, 121], [], 3⟩, ⟨2, -1, -1, [101], [], [], 0⟩], [⟨0, 1, []⟩, ⟨1, 2, []⟩]⟩
def line1 : Pc := ⟨[108, 105, 110, 101], [⟨1, -1, -1, [115], [], [], 0⟩, ⟨3, -1, -1, [116], [112, 97, 121], [], 3⟩, ⟨2, -1, -1, [101], [], [], 0⟩], [⟨0, 1, []⟩]⟩
theorem chk_line : chk lineP = (0, -1) := by decide +kernel
theorem chk_line1 : chk line1 = (14, 1) := by decide +kernel
theorem pBs_line : pBs lineP = [4, 108, 105, 110, 101, 3, 2, 1, 1, 1, 115, 0, 0, 0, 6, 1, 1, 1, 116, 3, 112, 97, 121, 0, 6, 4, 1, 1, 1, 101, 0, 0, 0, 2, 0, 2, 0, 2, 4, 0] := by decide +kernel
theorem tkP_line : tkP [4, 108, 105, 110, 101, 3, 2, 1, 1, 1, 115, 0, 0, 0, 6, 1, 1, 1, 116, 3, 112, 97, 121, 0, 6, 4, 1, 1, 1, 101, 0, 0, 0, 2, 0, 2, 0, 2, 4, 0] = (lineP, 0) := by decide +kernel
theorem pz_line : Pz lineP := ⟨by decide, by decide, by decide, by unfold Nz; decide, by unfold Fz; decide⟩
theorem pz_line1 : Pz line1 := ⟨by decide, by decide, by decide, by unfold Nz; decide, by unfold Fz; decide⟩
/-- the nodes and flows of the example, as they are laid -/
theorem ns_line (W : World) : Ns (W.alloc (.cells #[.int .i64 1, .int .i64 (-1), .int .i64 (-1), .string ⟨#[115]⟩, .string ⟨#[]⟩, .string ⟨#[]⟩, .int .i64 0, .int .i64 3, .int .i64 (-1), .int .i64 (-1), .string ⟨#[116]⟩, .string ⟨#[112, 97, 121]⟩, .string ⟨#[]⟩, .int .i64 3, .int .i64 2, .int .i64 (-1), .int .i64 (-1), .string ⟨#[101]⟩, .string ⟨#[]⟩, .string ⟨#[]⟩, .int .i64 0] 32)) (.slice (some ⟨W.heap.size, 0, none⟩) 3 3) lineP.nodes := by
  refine ⟨_, _, rfl, ⟨Nat.le_refl _, fun e => by cases e⟩, .inr ⟨_, _, rfl, by simp, fun j hj => ?_⟩⟩
  have h3 : j < 3 := hj
  match j, h3 with
  | 0, _ => exact ⟨World.cell?_alloc_new _ _ _ _, World.cell?_alloc_new _ _ _ _, World.cell?_alloc_new _ _ _ _, World.cell?_alloc_new _ _ _ _, World.cell?_alloc_new _ _ _ _, World.cell?_alloc_new _ _ _ _, World.cell?_alloc_new _ _ _ _⟩
  | 1, _ => exact ⟨World.cell?_alloc_new _ _ _ _, World.cell?_alloc_new _ _ _ _, World.cell?_alloc_new _ _ _ _, World.cell?_alloc_new _ _ _ _, World.cell?_alloc_new _ _ _ _, World.cell?_alloc_new _ _ _ _, World.cell?_alloc_new _ _ _ _⟩
  | 2, _ => exact ⟨World.cell?_alloc_new _ _ _ _, World.cell?_alloc_new _ _ _ _, World.cell?_alloc_new _ _ _ _, World.cell?_alloc_new _ _ _ _, World.cell?_alloc_new _ _ _ _, World.cell?_alloc_new _ _ _ _, World.cell?_alloc_new _ _ _ _⟩
theorem fs_line (W : World) : Fs (W.alloc (.cells #[.int .i64 0, .int .i64 1, .string ⟨#[]⟩, .int .i64 1, .int .i64 2, .string ⟨#[]⟩] 37)) (.slice (some ⟨W.heap.size, 0, none⟩) 2 2) lineP.flows := by
  refine ⟨_, _, rfl, ⟨Nat.le_refl _, fun e => by cases e⟩, .inr ⟨_, _, rfl, by simp, fun j hj => ?_⟩⟩
  have h2 : j < 2 := hj
  match j, h2 with
  | 0, _ => exact ⟨World.cell?_alloc_new _ _ _ _, World.cell?_alloc_new _ _ _ _, World.cell?_alloc_new _ _ _ _⟩
  | 1, _ => exact ⟨World.cell?_alloc_new _ _ _ _, World.cell?_alloc_new _ _ _ _, World.cell?_alloc_new _ _ _ _⟩

set_option maxRecDepth 100000 in
set_option maxHeartbeats 1000000 in
theorem line_any (w : World) : Calls Tryz.prog 9 #[] w fun e w' => e = .returned (.agg #[.string ⟨#[108, 105, 110, 101]⟩, .slice (some ⟨w.heap.size + 1, 0, none⟩) 3 3, .slice (some ⟨w.heap.size + 2, 0, none⟩) 2 2]) ∧ Po w' (.slice (some ⟨w.heap.size + 1, 0, none⟩) 3 3) (.slice (some ⟨w.heap.size + 2, 0, none⟩) 2 2) lineP ∧ Below w.heap.size w w' ∧ w.heap.size + 2 < w'.heap.size := by
  have HP : Hid (∀ Z : Obj, Po (((w.alloc Z).alloc (.cells #[.int .i64 1, .int .i64 (-1), .int .i64 (-1), .string ⟨#[115]⟩, .string ⟨#[]⟩, .string ⟨#[]⟩, .int .i64 0, .int .i64 3, .int .i64 (-1), .int .i64 (-1), .string ⟨#[116]⟩, .string ⟨#[112, 97, 121]⟩, .string ⟨#[]⟩, .int .i64 3, .int .i64 2, .int .i64 (-1), .int .i64 (-1), .string ⟨#[101]⟩, .string ⟨#[]⟩, .string ⟨#[]⟩, .int .i64 0] 32)).alloc (.cells #[.int .i64 0, .int .i64 1, .string ⟨#[]⟩, .int .i64 1, .int .i64 2, .string ⟨#[]⟩] 37)) (.slice (some ⟨w.heap.size + 1, 0, none⟩) 3 3) (.slice (some ⟨w.heap.size + 2, 0, none⟩) 2 2) lineP ∧ Below w.heap.size w (((w.alloc Z).alloc (.cells #[.int .i64 1, .int .i64 (-1), .int .i64 (-1), .string ⟨#[115]⟩, .string ⟨#[]⟩, .string ⟨#[]⟩, .int .i64 0, .int .i64 3, .int .i64 (-1), .int .i64 (-1), .string ⟨#[116]⟩, .string ⟨#[112, 97, 121]⟩, .string ⟨#[]⟩, .int .i64 3, .int .i64 2, .int .i64 (-1), .int .i64 (-1), .string ⟨#[101]⟩, .string ⟨#[]⟩, .string ⟨#[]⟩, .int .i64 0] 32)).alloc (.cells #[.int .i64 0, .int .i64 1, .string ⟨#[]⟩, .int .i64 1, .int .i64 2, .string ⟨#[]⟩] 37)) ∧ w.heap.size + 2 < (((w.alloc Z).alloc (.cells #[.int .i64 1, .int .i64 (-1), .int .i64 (-1), .string ⟨#[115]⟩, .string ⟨#[]⟩, .string ⟨#[]⟩, .int .i64 0, .int .i64 3, .int .i64 (-1), .int .i64 (-1), .string ⟨#[116]⟩, .string ⟨#[112, 97, 121]⟩, .string ⟨#[]⟩, .int .i64 3, .int .i64 2, .int .i64 (-1), .int .i64 (-1), .string ⟨#[101]⟩, .string ⟨#[]⟩, .string ⟨#[]⟩, .int .i64 0] 32)).alloc (.cells #[.int .i64 0, .int .i64 1, .string ⟨#[]⟩, .int .i64 1, .int .i64 2, .string ⟨#[]⟩] 37)).heap.size) := fun Z => by
    have h1 := ns_line (w.alloc Z)
    have h2 := fs_line ((w.alloc Z).alloc (.cells #[.int .i64 1, .int .i64 (-1), .int .i64 (-1), .string ⟨#[115]⟩, .string ⟨#[]⟩, .string ⟨#[]⟩, .int .i64 0, .int .i64 3, .int .i64 (-1), .int .i64 (-1), .string ⟨#[116]⟩, .string ⟨#[112, 97, 121]⟩, .string ⟨#[]⟩, .int .i64 3, .int .i64 2, .int .i64 (-1), .int .i64 (-1), .string ⟨#[101]⟩, .string ⟨#[]⟩, .string ⟨#[]⟩, .int .i64 0] 32))
    rw [World.size_alloc] at h1
    rw [World.size_alloc, World.size_alloc] at h2
    exact ⟨⟨h1.up ((Below.refl _ _).alloc (Nat.le_refl _) _), h2⟩, (((Below.refl _ w).alloc (Nat.le_refl _) _).alloc (by simp) _).alloc (by simp; omega) _, by simp⟩
  go_enter Tryz.func9, Tryz.ntmps9
  go_wp2
  refine bodyPost_ret (v := .agg #[.string ⟨#[108, 105, 110, 101]⟩, .slice (some ⟨w.heap.size + 1, 0, none⟩) 3 3, .slice (some ⟨w.heap.size + 2, 0, none⟩) 2 2]) (by simp [results, Tryz.results9, go_sem]) rfl ⟨rfl, HP.out _⟩

/-- the example's process lies in block pb -/
structure Nw (w : World) (pb : Nat) (W : World) : Prop where
  po : Po W (.slice (some ⟨w.heap.size + 1, 0, none⟩) 3 3) (.slice (some ⟨w.heap.size + 2, 0, none⟩) 2 2) lineP
  bw : Below w.heap.size w W
  bo : Bo 25 W pb #[.string ⟨#[108, 105, 110, 101]⟩, .slice (some ⟨w.heap.size + 1, 0, none⟩) 3 3, .slice (some ⟨w.heap.size + 2, 0, none⟩) 2 2]
  lo : w.heap.size + 2 < pb
theorem Nw.up {w : World} {pb : Nat} {W W' : World} (h : Nw w pb W) (hb : Below W.heap.size W W') : Nw w pb W' := ⟨h.po.up hb, bel_of h.bw hb (Nat.le_refl _), (hb.block pb h.bo.lt).trans h.bo, h.lo⟩
theorem Nw.c0 {w : World} {pb : Nat} {W : World} (h : Nw w pb W) : W.cell? ⟨pb, 0, none⟩ = some (.string ⟨#[108, 105, 110, 101]⟩) := h.bo.c 0
theorem Nw.c1 {w : World} {pb : Nat} {W : World} (h : Nw w pb W) : W.cell? ⟨pb, 1, none⟩ = some (.slice (some ⟨w.heap.size + 1, 0, none⟩) 3 3) := h.bo.c 1
theorem Nw.c2 {w : World} {pb : Nat} {W : World} (h : Nw w pb W) : W.cell? ⟨pb, 2, none⟩ = some (.slice (some ⟨w.heap.size + 2, 0, none⟩) 2 2) := h.bo.c 2

set_option maxRecDepth 100000 in
set_option maxHeartbeats 4000000 in
theorem shown_any {w : World} (hg : Gg w) : Calls Tryz.prog 5 #[] w fun e w' => e = .returned (.bool true) ∧ Below w.heap.size w w' := by
  have CL := line_any w
  have HG : Hid (Gg w) := hg
  have HL : Hid (∀ w1, Po w1 (.slice (some ⟨w.heap.size + 1, 0, none⟩) 3 3) (.slice (some ⟨w.heap.size + 2, 0, none⟩) 2 2) lineP → Below w.heap.size w w1 → w.heap.size + 2 < w1.heap.size → Nw w w1.heap.size (w1.alloc (.cells #[.string ⟨#[108, 105, 110, 101]⟩, .slice (some ⟨w.heap.size + 1, 0, none⟩) 3 3, .slice (some ⟨w.heap.size + 2, 0, none⟩) 2 2] 25)) ∧ Calls Tryz.prog 6 #[.agg #[.string ⟨#[108, 105, 110, 101]⟩, .slice (some ⟨w.heap.size + 1, 0, none⟩) 3 3, .slice (some ⟨w.heap.size + 2, 0, none⟩) 2 2]] (w1.alloc (.cells #[.string ⟨#[108, 105, 110, 101]⟩, .slice (some ⟨w.heap.size + 1, 0, none⟩) 3 3, .slice (some ⟨w.heap.size + 2, 0, none⟩) 2 2] 25)) fun e w' => e = .returned (.tuple #[.int .i64 0, .int .i64 (-1)]) ∧ Nw w w1.heap.size w') := fun w1 p1 b1 z1 => by
    have hb : Below w1.heap.size w1 (w1.alloc (.cells #[.string ⟨#[108, 105, 110, 101]⟩, .slice (some ⟨w.heap.size + 1, 0, none⟩) 3 3, .slice (some ⟨w.heap.size + 2, 0, none⟩) 2 2] 25)) := (Below.refl _ w1).alloc (Nat.le_refl _) _
    have hn : Nw w w1.heap.size (w1.alloc (.cells #[.string ⟨#[108, 105, 110, 101]⟩, .slice (some ⟨w.heap.size + 1, 0, none⟩) 3 3, .slice (some ⟨w.heap.size + 2, 0, none⟩) 2 2] 25)) := ⟨p1.up hb, bel_of b1 hb (Nat.le_refl _), Array.getElem?_push_size, z1⟩
    refine ⟨hn, ?_⟩
    have := Check_any hn.po pz_line (HG.out.up hn.bw)
    rw [chk_line] at this
    exact this.mono fun e w' hh => ⟨hh.1, hn.up hh.2⟩
  have HBy : Hid (∀ W pb, Nw w pb W → Calls Tryz.prog 11 #[.agg #[.string ⟨#[108, 105, 110, 101]⟩, .slice (some ⟨w.heap.size + 1, 0, none⟩) 3 3, .slice (some ⟨w.heap.size + 2, 0, none⟩) 2 2]] W fun e w' => e = .returned (.string (S [4, 108, 105, 110, 101, 3, 2, 1, 1, 1, 115, 0, 0, 0, 6, 1, 1, 1, 116, 3, 112, 97, 121, 0, 6, 4, 1, 1, 1, 101, 0, 0, 0, 2, 0, 2, 0, 2, 4, 0])) ∧ Nw w pb w') := fun W pb hn => by
    have := Bytes_any hn.po pz_line (by rw [pBs_line]; decide)
    rw [pBs_line] at this
    exact this.mono fun e w' hh => ⟨hh.1, hn.up hh.2⟩
  have HTa : Hid (∀ W pb, Nw w pb W → Calls Tryz.prog 10 #[.string (S [4, 108, 105, 110, 101, 3, 2, 1, 1, 1, 115, 0, 0, 0, 6, 1, 1, 1, 116, 3, 112, 97, 121, 0, 6, 4, 1, 1, 1, 101, 0, 0, 0, 2, 0, 2, 0, 2, 4, 0])] W fun e w' => ∃ na nc fa fc, e = .returned (.tuple #[.agg #[.string ⟨#[108, 105, 110, 101]⟩, .slice na 3 nc, .slice fa 2 fc], .int .i64 0]) ∧ Nw w pb w' ∧ Po w' (.slice na 3 nc) (.slice fa 2 fc) lineP) := fun W pb hn => by
    have := Take_any [4, 108, 105, 110, 101, 3, 2, 1, 1, 1, 115, 0, 0, 0, 6, 1, 1, 1, 116, 3, 112, 97, 121, 0, 6, 4, 1, 1, 1, 101, 0, 0, 0, 2, 0, 2, 0, 2, 4, 0] (by decide) W
    rw [tkP_line] at this
    exact this.mono fun e w' hh => by
      obtain ⟨na, nc, fa, fc, he, hp, hb⟩ := hh
      exact ⟨na, nc, fa, fc, he, hn.up hb, hp⟩
  have HSa : Hid (∀ W pb na nc fa fc, Nw w pb W → Po W (.slice na 3 nc) (.slice fa 2 fc) lineP → Nw w pb (W.alloc (.cells #[.string ⟨#[108, 105, 110, 101]⟩, .slice na 3 nc, .slice fa 2 fc] 25)) ∧ Calls Tryz.prog 12 #[.agg #[.string ⟨#[108, 105, 110, 101]⟩, .slice (some ⟨w.heap.size + 1, 0, none⟩) 3 3, .slice (some ⟨w.heap.size + 2, 0, none⟩) 2 2], .agg #[.string ⟨#[108, 105, 110, 101]⟩, .slice na 3 nc, .slice fa 2 fc]] (W.alloc (.cells #[.string ⟨#[108, 105, 110, 101]⟩, .slice na 3 nc, .slice fa 2 fc] 25)) fun e w' => e = .returned (.bool true) ∧ Nw w pb w') := fun W pb na nc fa fc hn hp => by
    have hb : Below W.heap.size W (W.alloc (.cells #[.string ⟨#[108, 105, 110, 101]⟩, .slice na 3 nc, .slice fa 2 fc] 25)) := (Below.refl _ W).alloc (Nat.le_refl _) _
    have hn2 := hn.up hb
    refine ⟨hn2, ?_⟩
    have := Same_eq hn2.po (hp.up hb) (by decide) (by decide)
    exact this.mono fun e w' hh => ⟨hh.1, hn2.up hh.2⟩
  have HC2 : Hid (∀ W pb, Nw w pb W → Calls Tryz.prog 6 #[.agg #[.string ⟨#[108, 105, 110, 101]⟩, .slice (some ⟨w.heap.size + 1, 0, none⟩) 3 3, .slice (some ⟨w.heap.size + 2, 0, none⟩) 1 2]] (W.setCell ⟨pb, 2, none⟩ (.slice (some ⟨w.heap.size + 2, 0, none⟩) 1 2)) fun e w' => e = .returned (.tuple #[.int .i64 14, .int .i64 1]) ∧ Below w.heap.size w w') := fun W pb hn => by
    have hz := hn.lo
    have hb : Below w.heap.size w (W.setCell ⟨pb, 2, none⟩ (.slice (some ⟨w.heap.size + 2, 0, none⟩) 1 2)) := hn.bw.setCell (by show w.heap.size ≤ pb; omega) _
    have hpo : Po (W.setCell ⟨pb, 2, none⟩ (.slice (some ⟨w.heap.size + 2, 0, none⟩) 1 2)) (.slice (some ⟨w.heap.size + 1, 0, none⟩) 3 3) (.slice (some ⟨w.heap.size + 2, 0, none⟩) 1 2) line1 := ⟨ns_far hn.po.ns (fun k hk => by cases hk; simp only; omega), fs_far (hn.po.fs.take (i := 1) (by decide)) (fun k hk => by cases hk; simp only; omega)⟩
    have := Check_any hpo pz_line1 (HG.out.up hb)
    rw [chk_line1] at this
    exact this.mono fun e w' hh => ⟨hh.1, bel_of hb hh.2 (Nat.le_refl _)⟩
  clear hg
  go_enter Tryz.func5, Tryz.ntmps5
  go_wp2_with (first
    | (go_at_call 9; refine CL.mono ?_; rintro e w1 ⟨rfl, p1, b1, z1⟩; obtain ⟨k1, CC⟩ := HL.out w1 p1 b1 z1; clear p1 b1 z1 CL HL k1)
    | (go_at_call 6; refine CC.mono ?_; rintro e w2 ⟨rfl, k2⟩; (have CB := HBy.out w2 _ k2); (have c0 := k2.c0); (have c1 := k2.c1); (have c2 := k2.c2); clear k2 CC HBy)
    | (go_at_call 11; refine CB.mono ?_; rintro e w3 ⟨rfl, k3⟩; (have CT := HTa.out w3 _ k3); clear k3 CB HTa c0 c1 c2)
    | (go_at_call 10; refine CT.mono ?_; rintro e w4 ⟨na, nc, fa, fc, rfl, k4, p4⟩; obtain ⟨k5, CS⟩ := HSa.out w4 _ na nc fa fc k4 p4; (have c0 := k5.c0); (have c1 := k5.c1); (have c2 := k5.c2); clear k4 p4 k5 CT HSa)
    | (go_at_call 12; refine CS.mono ?_; rintro e w5 ⟨rfl, k6⟩; (have CD := HC2.out w5 _ k6); clear c0 c1 c2; (have c0 := k6.c0); (have c1 := k6.c1); (have c2 := k6.c2); (have f2 := k6.bo.f 2); clear k6 CS HC2)
    | (go_at_call 6; refine CD.mono ?_; rintro e w7 ⟨rfl, b7⟩; (have B7 : Hid (Below w.heap.size w w7) := b7); clear b7 CD))
  go_ret
  exact ⟨rfl, B7.out⟩
end Go.Proofs.YtlmdoiagjepmbaaGreatDoor.m11
