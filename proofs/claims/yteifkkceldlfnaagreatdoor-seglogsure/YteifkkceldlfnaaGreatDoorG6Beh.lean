/-
  Package seglog's Open behind a crash.
-/
import Derived.Test.YteifkkceldlfnaaGreatDoorG6Rec
import Derived.Test.YteifkkceldlfnaaGreatDoorG6Opn2
namespace Go.Proofs.YteifkkceldlfnaaGreatDoor
open Go.RowKit Go.Shelf Go.Sort
open Go.Lib hiding intOf

/-- a log as it was opened: all of it from position 1 on, whole batches of what was appended, and no less than was sure -/
structure Beh (lg lg2 : Lg) (all : List (List UInt8)) (ends : List Nat) : Prop where
  ok : Ok lg2
  recs : recsOf lg2.segs <+: all
  first : gFirst lg2 = 1
  next : lg2.next = (recsOf lg2.segs).length + 1
  sure : lg.sure ≤ lg2.next
  whole : ∃ m ∈ ends, lg2.next = m + 1
theorem Open_behind {w : World} {B d : Nat} {es : List Le} {mo : Option Nat} {fs : List Fil} {keep : List Int} {lg : Lg} {all : List (List UInt8)} {ends : List Nat} (h : Ld w B d es (-1) false mo) (hf : fil es = crAll keep fs) (hb : Bg lg fs ends) (ok : Ok lg) (hpn : Pn lg all) (hp : isP lg.pre = true) (hv : Gv B w) (he : Ev B w) (hB : B ≤ w.heap.size) :
    Calls Tryz.prog 9 #[.pointer (some ⟨d, 0, none⟩), .string lg.pre, .int .i64 (lg.sz : Int)] w fun e w' => ∃ lb lg2 st2, e = .returned (.tuple #[.pointer (some ⟨lb, 0, none⟩), .int .i64 0]) ∧ Lft (foot d mo es) w B lb d lg2 st2 w' ∧ Beh lg lg2 all ends := by
  refine (Open_any h hp ok.sz.1 ok.sz.2 hv he hB).mono ?_
  rintro e w' ⟨ps, hps, hr⟩
  have hps' : PsOf lg.pre ((crAll keep fs).map (·.1)) ps := by rw [← hf]; exact hps
  obtain ⟨o1, o2, o3, o4, o5⟩ := hb.opened ok keep hps'
  have est : (fil es, (-1 : Int), false) = aCrash (fs, 0, false) keep := by rw [hf]; rfl
  rw [est] at hr
  rcases hr with ⟨hn, -⟩ | ⟨-, lb, rfl, hl⟩
  · exact absurd o1 hn
  · have ok2 : Ok (lgOf lg.pre lg.sz (gOpn lg.pre ps (aCrash (fs, 0, false) keep)).2.1) := by
      obtain ⟨⟨_, _, _, _, _, _, _, ok2, _⟩, _⟩ := hl
      exact ok2
    refine ⟨lb, _, _, rfl, hl, ok2, by rw [← hpn.a]; exact o2, ?_, ?_, o4, o5⟩
    · show gFirst (lgOf lg.pre lg.sz _) = 1
      unfold gFirst lgOf
      cases hc : (gOpn lg.pre ps (aCrash (fs, 0, false) keep)).2.1 with
      | nil => rfl
      | cons s r => simp only; rw [o3 s r hc]; exact hpn.f
    · show ldNx (gOpn lg.pre ps (aCrash (fs, 0, false) keep)).2.1 = _
      cases hc : (gOpn lg.pre ps (aCrash (fs, 0, false) keep)).2.1 with
      | nil => rfl
      | cons s r =>
        have h1 := ok2.cn.recs s r hc
        have h2 := o3 s r hc
        have h3 : (lgOf lg.pre lg.sz (gOpn lg.pre ps (aCrash (fs, 0, false) keep)).2.1).next = ldNx (gOpn lg.pre ps (aCrash (fs, 0, false) keep)).2.1 := rfl
        have h4 : (lgOf lg.pre lg.sz (gOpn lg.pre ps (aCrash (fs, 0, false) keep)).2.1).segs = (gOpn lg.pre ps (aCrash (fs, 0, false) keep)).2.1 := rfl
        rw [h3, h4, hc] at h1
        show ldNx (s :: r) = (recsOf (s :: r)).length + 1
        have h5 := hpn.f
        omega
end Go.Proofs.YteifkkceldlfnaaGreatDoor
