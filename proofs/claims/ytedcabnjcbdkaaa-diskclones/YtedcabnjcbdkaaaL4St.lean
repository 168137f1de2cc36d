/-
  Package disk: what each call comes to, of a disk by what it has; the document's example.
-/
import Derived.Test.YtedcabnjcbdkaaaL4App2
namespace Go.Proofs.Ytedcabnjcbdkaaa
open Go.RowKit Go.Shelf Go.Sort
open Go.Lib hiding intOf
variable {w w' : World} {B d : Nat} {es : List Le} {p : Int} {off : Bool} {mo : Option Nat} {st : Ab}

/-- the disk in block d has this -/
def St (w : World) (B d : Nat) (st : Ab) : Prop := ∃ es mo, Ld w B d es st.2.1 st.2.2 mo ∧ fil es = st.1
/-- what was there is kept: all below B, and every disk of the document's -/
def Mv (B : Nat) (w w' : World) : Prop := Below B w w' ∧ ∀ db base fs q o sv, Dk w db base fs q o sv → Dk w' db base fs q o sv
theorem Mv.refl (B : Nat) (w : World) : Mv B w w := ⟨Below.refl _ w, fun _ _ _ _ _ _ h => h⟩
theorem Mv.trans {a b c : World} (h : Mv B a b) (k : Mv B b c) : Mv B a c := ⟨h.1.trans k.1, fun _ _ _ _ _ _ x => k.2 _ _ _ _ _ _ (h.2 _ _ _ _ _ _ x)⟩
theorem Mv.of_below (h : Below w.heap.size w w') (hB : B ≤ w.heap.size) : Mv B w w' := ⟨h.mono hB, fun _ _ _ _ _ _ x => x.below h⟩
theorem St.lt (h : St w B d st) : B ≤ d ∧ d < w.heap.size := by
  obtain ⟨es, mo, h, _⟩ := h
  exact ⟨h.low.1, h.lt⟩
theorem St.below (h : St w B d st) (hb : Below w.heap.size w w') : St w' B d st := by
  obtain ⟨es, mo, h, e⟩ := h
  exact ⟨es, mo, h.below hb, e⟩
theorem St.rise (h : St w B d st) : Rise st.1 := by
  obtain ⟨es, mo, h, e⟩ := h
  rw [← e]
  exact fil_rise h.rise
theorem Did.mv (h : Ld w B d es p off mo) (hd : Did w B d es mo w' st) : St w' B d st ∧ Mv B w w' := by
  obtain ⟨es', mo', L, e, C, _⟩ := hd
  refine ⟨⟨es', mo', L, e⟩, C.below (Nat.le_of_lt (Nat.lt_of_le_of_lt h.low.1 h.lt)) (fun x hx hf => ?_), fun db base fs q o sv hk => hk.ch C (fun x hx => h.not_dk hk hx)⟩
  have := (h.foot_lt hf).2
  omega
/-- a call of a disk that comes to (answer, what it has then) -/
abbrev Comes (w : World) (B d : Nat) (r : Int × Ab) (e : Ending) (w' : World) : Prop := e = .returned (.int .i64 r.1) ∧ St w' B d r.2 ∧ Mv B w w'
theorem sNew (B : Nat) (w : World) (hB : B ≤ w.heap.size) : Calls Try.prog 10 #[] w fun e w' => e = .returned (.pointer (some ⟨w.heap.size, 0, none⟩)) ∧ St w' B w.heap.size ([], -1, false) ∧ Below w.heap.size w w' :=
  (New_any B w hB).mono fun _ _ h => ⟨h.1, ⟨_, _, h.2.1, rfl⟩, h.2.2⟩
theorem sApp (h : St w B d st) (k s : ByteArray) (hz : k.size ≤ 9223372036854775807) : Calls Try.prog 19 #[.pointer (some ⟨d, 0, none⟩), .string k, .string s] w (Comes w B d (aApp st k s)) := by
  obtain ⟨fs, p, off⟩ := st
  obtain ⟨es, mo, h, e⟩ := h
  obtain rfl : fil es = fs := e
  exact (Append_any h k s hz (Nat.le_of_lt (Nat.lt_of_le_of_lt h.low.1 h.lt))).mono fun _ _ x => ⟨x.1, Did.mv h x.2⟩
theorem sSync (h : St w B d st) (k : ByteArray) (hz : k.size ≤ 9223372036854775807) : Calls Try.prog 20 #[.pointer (some ⟨d, 0, none⟩), .string k] w (Comes w B d (aSync st k)) := by
  obtain ⟨fs, p, off⟩ := st
  obtain ⟨es, mo, h, e⟩ := h
  obtain rfl : fil es = fs := e
  exact (Sync_any h k hz).mono fun _ _ x => ⟨x.1, Did.mv h x.2⟩
theorem sCut (h : St w B d st) (k : ByteArray) (n : Int) (hz : k.size ≤ 9223372036854775807) : Calls Try.prog 24 #[.pointer (some ⟨d, 0, none⟩), .string k, .int .i64 n] w (Comes w B d (aCut st k n)) := by
  obtain ⟨fs, p, off⟩ := st
  obtain ⟨es, mo, h, e⟩ := h
  obtain rfl : fil es = fs := e
  exact (Cut_any h k n hz).mono fun _ _ x => ⟨x.1, Did.mv h x.2⟩
theorem sDel (h : St w B d st) (k : ByteArray) (hz : k.size ≤ 9223372036854775807) : Calls Try.prog 25 #[.pointer (some ⟨d, 0, none⟩), .string k] w (Comes w B d (aDel st k)) := by
  obtain ⟨fs, p, off⟩ := st
  obtain ⟨es, mo, h, e⟩ := h
  obtain rfl : fil es = fs := e
  exact (Delete_any h k hz).mono fun _ _ x => ⟨x.1, Did.mv h x.2⟩
theorem sRead (h : St w B d st) (k : ByteArray) (hz : k.size ≤ 9223372036854775807) : Calls Try.prog 22 #[.pointer (some ⟨d, 0, none⟩), .string k] w fun e w' => e = .returned (.tuple #[.string (aRead st k).1, .int .i64 (aRead st k).2]) ∧ w' = w := by
  obtain ⟨fs, p, off⟩ := st
  obtain ⟨es, mo, h, e⟩ := h
  obtain rfl : fil es = fs := e
  exact Read_any h k hz
theorem sOff (h : St w B d st) : Calls Try.prog 18 #[.pointer (some ⟨d, 0, none⟩)] w fun e w' => e = .returned (.bool st.2.2) ∧ w' = w := by
  obtain ⟨es, mo, h, e⟩ := h
  exact Off_any h
theorem sPower (h : St w B d st) (a : Int) (ha : a ≤ 9223372036854775807) : Calls Try.prog 26 #[.pointer (some ⟨d, 0, none⟩), .int .i64 a] w fun e w' => (∃ v, e = .returned v) ∧ St w' B d (aPow st a) ∧ Mv B w w' := by
  obtain ⟨fs, p, off⟩ := st
  obtain ⟨es, mo, h, e⟩ := h
  obtain rfl : fil es = fs := e
  exact (Power_any h a ha).mono fun _ _ x => ⟨x.1, Did.mv h (st := aPow (fil es, p, off) a) (Did.own x.2.1 x.2.2)⟩
theorem sNames (h : St w B d st) : Calls Try.prog 16 #[.pointer (some ⟨d, 0, none⟩)] w fun e w' => ∃ v, e = .returned v ∧ w'.ownsRow w.heap.size 9 1 v st.1.length (nms st.1) ∧ Below w.heap.size w w' := by
  obtain ⟨es, mo, h, e⟩ := h
  have e1 : nms es = nms st.1 := by
    rw [← e]
    unfold nms fil vals
    rw [List.map_map]
    rfl
  have e2 : es.length = st.1.length := by rw [← e, fil_len]
  rw [← e1, ← e2]
  exact Names_any h
/-- Crash with numbers that lie below B, or with none -/
theorem sCrashE (h : St w B d st) {ka : Option Addr} {ks : List Int} {kc : Nat} (hk : Ks w ka ks) (hkf : ks ≠ [] → ∀ a, ka = some a → a.block < B) :
    Calls Try.prog 21 #[.pointer (some ⟨d, 0, none⟩), .slice ka ks.length kc] w fun e w' => (∃ x, e = .returned x) ∧ St w' B d (aCrash st ks) ∧ Mv B w w' := by
  obtain ⟨fs, p, off⟩ := st
  obtain ⟨es, mo, h, e⟩ := h
  obtain rfl : fil es = fs := e
  exact (Crash_any h hk (fun h0 a e => ⟨fun hf => by
    have := (h.foot_lt hf).2
    have := hkf h0 a e
    omega, by
    have := hkf h0 a e
    have := h.low.1
    have := h.lt
    omega⟩)).mono fun _ _ x => ⟨x.1, Did.mv h x.2⟩
theorem sCrash (h : St w B d st) {ka : Option Addr} {ks : List Int} {kc : Nat} (hk : Ks w ka ks) (hkf : ∀ a, ka = some a → a.block < B) :
    Calls Try.prog 21 #[.pointer (some ⟨d, 0, none⟩), .slice ka ks.length kc] w fun e w' => (∃ x, e = .returned x) ∧ St w' B d (aCrash st ks) ∧ Mv B w w' := sCrashE h hk (fun _ => hkf)
/-- Crash with numbers that were just laid -/
theorem sCrashL (h : St w B d st) {ks : List Int} {kc : Nat} {arr : Array Value} {t : TypeId} (hk : ∀ j (hj : j < ks.length), arr[j]? = some (.int .i64 ks[j])) :
    Calls Try.prog 21 #[.pointer (some ⟨d, 0, none⟩), .slice (some ⟨w.heap.size, 0, none⟩) ks.length kc] (w.alloc (.cells arr t)) fun e w' => (∃ x, e = .returned x) ∧ St w' B d (aCrash st ks) ∧ Mv B w w' := by
  obtain ⟨fs, p, off⟩ := st
  obtain ⟨es, mo, h, e⟩ := h
  obtain rfl : fil es = fs := e
  have hb : Below w.heap.size w (w.alloc (.cells arr t)) := (Below.refl _ w).alloc (Nat.le_refl _) _
  have hnew := heap_alloc_new w (.cells arr t)
  refine (Crash_any (h.below hb) (ka := some ⟨w.heap.size, 0, none⟩) (ks := ks) (kc := kc) (fun j hj => ⟨w.heap.size, 0, rfl, ?_⟩) (fun _ a e => ?_)).mono fun _ _ x => ⟨x.1, ?_⟩
  · have := hk j hj
    show (match (w.alloc (.cells arr t)).heap[w.heap.size]? with | some (.cells c _ _) => c[0 + j]? | _ => none) = _
    rw [hnew, Nat.zero_add]
    exact this
  · cases e
    refine ⟨fun hf => ?_, by simp⟩
    have := (h.foot_lt hf).1
    simp at this
  · have := Did.mv (h.below hb) x.2
    exact ⟨this.1, (Mv.of_below hb (Nat.le_of_lt (Nat.lt_of_le_of_lt h.low.1 h.lt))).trans this.2⟩

end Go.Proofs.Ytedcabnjcbdkaaa
