/-
  Contract of the document's answer for a text that is read (wherryref01.Reader's Text), by the same function on lists of bytes as that of package wire's reader; but for the reader's own block nothing that was there before the call is changed.
-/
import Derived.Test.YtippnkendoghpaaGWire
namespace Go.Proofs.Ytippnkendoghpaa
open Go.RowKit

set_option maxHeartbeats 4000000 in
set_option maxRecDepth 100000 in
theorem rText_all {b e e2 : Nat} {most : Int} {s l l2 : List UInt8} {w : World} (h : Rd w b l e) (hl : l.length ≤ 140737488355328) (hm : most ≤ 9223372036854775807) (hm0 : -9223372036854775808 ≤ most) (hres : Hid (rdT most l e = (s, l2, e2))) :
    Calls Try.prog 30 #[.pointer (some ⟨b, 0, none⟩), .int .i64 most] w fun r w' => r = .returned (.string (S s)) ∧ Rd w' b l2 e2 ∧ But b w w' := by
  have hr := hres.out
  have c0 := h.rest
  unfold rdT at hr
  clear hres
  by_cases he : e = 0
  · subst he
    rw [if_pos rfl] at hr
    obtain ⟨v, rest, f, hn⟩ : ∃ v rest f, numb 0 0 l = (v, rest, f) := ⟨_, _, _, rfl⟩
    have hU := rdU_of hn
    have hvlt := numb_lt0 (show Hid (numb 0 0 l = (v, rest, f)) from hn)
    by_cases hf : f = 0
    · subst hf
      rw [if_pos rfl] at hU
      have HU : Hid (rdU l 0 = (v, rest, 0)) := hU
      have hrl : rest.length ≤ l.length := by have := numb_le l 0 0; rw [hn] at this; exact this
      have hsr := S_size rest
      by_cases hbig : most < (v : Int)
      · have hc : cnt most l = (0, rest, 13) := by unfold cnt; rw [hn, if_neg (by simp), if_pos hbig]
        have ht : tex most l = ([], rest, 13) := by unfold tex; rw [hc, if_pos (by simp)]
        rw [ht, if_neg (by simp)] at hr
        simp only [Prod.mk.injEq] at hr
        obtain ⟨rfl, rfl, rfl⟩ := hr
        clear hU hn hc ht
        by_cases hneg : most < 0
        · go_enter Try.func30, Try.ntmps30
          go_wp2_with fail
          refine (rUint_all h (by omega) HU).mono ?_
          rintro r w1 ⟨rfl, rd1, b1⟩
          have k0 := rd1.rest; have k1 := rd1.err; have kf0 := rd1.fr; have kf1 := rd1.fe
          go_wp2
          go_ret
          exact ⟨rfl, (rd1.set1 13).set0 l, (b1.setCell _ _).setCell _ _⟩
        · have hw : IntKind.u64.wrap most = most := IntWalk.u64_in _ ⟨by omega, by omega⟩
          go_enter Try.func30, Try.ntmps30
          go_wp2_with fail
          refine (rUint_all h (by omega) HU).mono ?_
          rintro r w1 ⟨rfl, rd1, b1⟩
          have k0 := rd1.rest; have k1 := rd1.err; have kf0 := rd1.fr; have kf1 := rd1.fe
          go_wp2
          go_ret
          exact ⟨rfl, (rd1.set1 13).set0 l, (b1.setCell _ _).setCell _ _⟩
      · have hc : cnt most l = (v, rest, 0) := by unfold cnt; rw [hn, if_neg (by simp), if_neg hbig]
        have hw : IntKind.u64.wrap most = most := IntWalk.u64_in _ ⟨by omega, by omega⟩
        have hneg : ¬ most < 0 := by omega
        by_cases hlen : rest.length < v
        · have ht : tex most l = ([], rest, 2) := by unfold tex; rw [hc, if_neg (by simp), if_pos hlen]
          rw [ht, if_neg (by simp)] at hr
          simp only [Prod.mk.injEq] at hr
          obtain ⟨rfl, rfl, rfl⟩ := hr
          clear hU hn hc ht
          go_enter Try.func30, Try.ntmps30
          go_wp2_with fail
          refine (rUint_all h (by omega) HU).mono ?_
          rintro r w1 ⟨rfl, rd1, b1⟩
          have k0 := rd1.rest; have k1 := rd1.err; have kf0 := rd1.fr; have kf1 := rd1.fe
          go_wp2
          go_ret
          exact ⟨rfl, (rd1.set1 2).set0 l, (b1.setCell _ _).setCell _ _⟩
        · have ht : tex most l = (rest.take v, rest.drop v, 0) := by unfold tex; rw [hc, if_neg (by simp), if_neg hlen]
          rw [ht, if_pos rfl] at hr
          simp only [Prod.mk.injEq] at hr
          obtain ⟨rfl, rfl, rfl⟩ := hr
          clear hU hn hc ht
          have hx1 := S_take rest v
          have hx2 := S_drop rest v
          have g1 : (v : Int) ≤ (rest.length : Int) := by omega
          have g2 : v ≤ rest.length := by omega
          go_enter Try.func30, Try.ntmps30
          go_wp2_with fail
          refine (rUint_all h (by omega) HU).mono ?_
          rintro r w1 ⟨rfl, rd1, b1⟩
          have k0 := rd1.rest; have k1 := rd1.err; have kf0 := rd1.fr; have kf1 := rd1.fe
          go_wp2
          go_ret
          exact ⟨rfl, rd1.set0 _, b1.setCell _ _⟩
    · rw [if_neg hf] at hU
      have HU : Hid (rdU l 0 = (0, l, f)) := hU
      have hc : cnt most l = (0, rest, f) := by unfold cnt; rw [hn, if_pos hf]
      have ht : tex most l = ([], rest, f) := by unfold tex; rw [hc, if_pos hf]
      rw [ht, if_neg hf] at hr
      simp only [Prod.mk.injEq] at hr
      obtain ⟨rfl, rfl, rfl⟩ := hr
      have hbe : (((f : Nat) : Int) != 0) = true := by rw [bne_iff_ne]; omega
      have hbf : (((f : Nat) : Int) == 0) = false := beq_eq_false_iff_ne.2 (by omega)
      clear hU hn hc ht hf
      go_enter Try.func30, Try.ntmps30
      go_wp2_with fail
      refine (rUint_all h (by omega) HU).mono ?_
      rintro r w1 ⟨rfl, rd1, b1⟩
      have k0 := rd1.rest; have k1 := rd1.err; have kf0 := rd1.fr; have kf1 := rd1.fe
      go_wp2
      go_ret
      exact ⟨rfl, rd1.set0 l, b1.setCell _ _⟩
  · rw [if_neg he] at hr
    simp only [Prod.mk.injEq] at hr
    obtain ⟨rfl, rfl, rfl⟩ := hr
    have HU : Hid (rdU l e = (0, l, e)) := by show _ = _; unfold rdU; rw [if_neg he]
    have hbe : (((e : Nat) : Int) != 0) = true := by rw [bne_iff_ne]; omega
    have hbf : (((e : Nat) : Int) == 0) = false := beq_eq_false_iff_ne.2 (by omega)
    clear he
    go_enter Try.func30, Try.ntmps30
    go_wp2_with fail
    refine (rUint_all h (by omega) HU).mono ?_
    rintro r w1 ⟨rfl, rd1, b1⟩
    have k0 := rd1.rest; have k1 := rd1.err; have kf0 := rd1.fr; have kf1 := rd1.fe
    go_wp2
    go_ret
    exact ⟨rfl, rd1.set0 l, b1.setCell _ _⟩

end Go.Proofs.Ytippnkendoghpaa
