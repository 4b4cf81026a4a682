/- Words for memory that holds numbers; contracts of the exact laws' looks at lists of numbers and at finds. -/
import Derived.Test.YtgecemngfpgcoaaTreeMem
import Derived.Test.YtgecemngfpgcoaaPlainG
import Derived.Test.YtgecemngfpgcoaaMarks
import Derived.OwnWalk
import Derived.ChangeSlices
import Derived.Laws.OwnMore
import Derived.Laws.MakeOwn
import Derived.Deep.RegionHeld3
import Derived.Deep.AppendLies
set_option linter.unusedVariables false
set_option linter.unusedSimpArgs false
namespace Go.Proofs.Ytgecemngfpgcoaa
open Go.RowKit Go.Proofs.Ytgecemngfpgcoaa.Nm

/-- The slice v reads as the numbers xs in w; nothing is said of an empty one's address. -/
def IntsIn (w : World) (v : Value) (xs : List Int) : Prop :=
  ∃ a cap, v = .slice a xs.length cap ∧ xs.length ≤ cap ∧ cap ≤ maxLen ∧
    (0 < xs.length → ∃ b off, a = some ⟨b, off, none⟩ ∧ b < w.heap.size ∧ ∀ k (h : k < xs.length), w.cell? ⟨b, off + k, none⟩ = some (.int .i64 xs[k]))
theorem IntsIn.below {w w' : World} {v : Value} {xs : List Int} (h : IntsIn w v xs) (hb : Below w.heap.size w w') : IntsIn w' v xs := by
  obtain ⟨a, cap, h1, h2, h3, h4⟩ := h
  refine ⟨a, cap, h1, h2, h3, fun hx => ?_⟩
  obtain ⟨b, off, e1, e2, e3⟩ := h4 hx
  refine ⟨b, off, e1, Nat.lt_of_lt_of_le e2 hb.size, fun k hk => ?_⟩
  rw [hb.cell (p := ⟨b, off + k, none⟩) e2]
  exact e3 k hk
theorem IntsIn.len {w : World} {v : Value} {xs : List Int} (h : IntsIn w v xs) : ∃ a cap, v = .slice a xs.length cap ∧ xs.length ≤ cap ∧ cap ≤ maxLen := by
  obtain ⟨a, cap, h1, h2, h3, _⟩ := h
  exact ⟨a, cap, h1, h2, h3⟩
theorem IntsIn.at_ {w : World} {v : Value} {xs : List Int} (h : IntsIn w v xs) {k : Nat} (hk : k < xs.length) : ∃ b off cap, v = .slice (some ⟨b, off, none⟩) xs.length cap ∧ b < w.heap.size ∧ w.cell? ⟨b, off + k, none⟩ = some (.int .i64 xs[k]) := by
  obtain ⟨a, cap, h1, h2, h3, h4⟩ := h
  obtain ⟨b, off, e1, e2, e3⟩ := h4 (by omega)
  subst e1
  exact ⟨b, off, cap, h1, e2, e3 k hk⟩
/-- A number as a cell's value. -/
def iv (n : Int) : Value := .int .i64 n
theorem IntsIn.of_owns {w : World} {B : Nat} {e : TypeId} {v : Value} {xs : List Int} (h : w.ownsRow B e 1 v xs.length (xs.map iv)) : IntsIn w v xs := by
  rcases h.2 with ⟨rfl, h2⟩ | ⟨g, cap, cur, rfl, h2, h3, h4, h5, h6, h7⟩
  · exact ⟨none, 0, by rw [h2], by omega, by unfold maxLen; omega, fun hx => absurd hx (by omega)⟩
  · refine ⟨_, cap, rfl, h4, h5, fun _ => ⟨g, 0, rfl, (Array.getElem?_eq_some_iff.1 h3).1, fun k hk => ?_⟩⟩
    have := h.cells (g := g) rfl k (.int .i64 xs[k]) (by rw [List.getElem?_map, List.getElem?_eq_getElem hk]; rfl)
    have hadd : (⟨g, 0, none⟩ : Addr).add k = ⟨g, 0 + k, none⟩ := by unfold Addr.add; split <;> simp_all
    rw [hadd] at this
    exact this
theorem IntsIn.nil (w : World) (a : Option Addr) (cap : Nat) (h : cap ≤ maxLen) : IntsIn w (.slice a 0 cap) [] := ⟨a, cap, rfl, Nat.zero_le _, h, fun hx => absurd hx (by simp)⟩
/-- The front of a list that is read. -/
theorem IntsIn.front {w : World} {a : Option Addr} {n cap : Nat} {xs : List Int} (h : IntsIn w (.slice a n cap) xs) (k : Nat) (hk : k ≤ xs.length) : IntsIn w (.slice a k cap) (xs.take k) := by
  obtain ⟨a', cap', h1, h2, h3, h4⟩ := h
  simp only [Value.slice.injEq] at h1
  obtain ⟨rfl, rfl, rfl⟩ := h1
  have e : (xs.take k).length = k := by rw [List.length_take]; omega
  refine ⟨a, cap, by rw [e], by omega, h3, fun hx => ?_⟩
  obtain ⟨b, off, e1, e2, e3⟩ := h4 (by omega)
  refine ⟨b, off, e1, e2, fun j hj => ?_⟩
  rw [e3 j (by omega)]; simp
/-- A list of numbers that came in. -/
theorem ints_row {H : Type} {enc : TypeId × Value → H} {P : Program} {w : World} {spare : Nat → Bool} {held : Bool} {t e : TypeId} {fuel : Nat} {a : Option Addr} {len cap : Nat} {x : DataW H × List MemPlace}
    (ht : P.underlying t = some (.slice e)) (he : P.underlying e = some (.int .i64)) (hc : P.cellsOf e = 1)
    (h : DataW.trod enc P w 0 spare held fuel t [.slice a len cap] = some x) : ∃ xs, IntsIn w (.slice a len cap) xs := by
  rcases Go.ChangeShapes.open_ints ht he hc h with ⟨h0, _⟩ | ⟨A, l, c, zs, hcs, _, hl, hm, hlen, _, hcell, hsz⟩
  · simp only [List.cons.injEq, Value.slice.injEq, and_true] at h0
    obtain ⟨rfl, rfl, rfl⟩ := h0
    exact ⟨[], IntsIn.nil _ _ _ (by unfold maxLen; omega)⟩
  · simp only [List.cons.injEq, Value.slice.injEq, and_true] at hcs
    obtain ⟨rfl, rfl, rfl⟩ := hcs
    have hle : len ≤ zs.length := by rw [hlen]; split <;> omega
    have hxl : (zs.take len).length = len := by rw [List.length_take]; omega
    refine ⟨zs.take len, some A, cap, by rw [hxl], by rw [hxl]; exact hl, hm, fun hx => ?_⟩
    rw [hxl] at hx
    have h0 := hcell 0 (by omega)
    obtain ⟨b, off, spot⟩ := A
    have hspot : spot = none := by simpa [Addr.add] using World.cell?_spot h0
    subst hspot
    have hb : b < w.heap.size := by
      have h := World.block_lt_of_cell? w _ h0
      simpa [Addr.add] using h
    refine ⟨b, off, rfl, hb, fun k hk => ?_⟩
    have hk' : k < len := by rw [hxl] at hk; exact hk
    have hci := hcell k (by omega)
    have hadd : (⟨b, off, none⟩ : Addr).add k = ⟨b, off + k, none⟩ := by unfold Addr.add; split <;> simp_all
    rw [hadd] at hci
    rw [hci, List.getElem_take, List.getD_eq_getElem?_getD, List.getElem?_eq_getElem (by omega)]
    rfl

/-- What a function that returns a new list of numbers comes to. -/
def NewInts (T : TypeId) (xs : List Int) (w : World) (e : Ending) (w' : World) : Prop :=
  ∃ v, e = .returned v ∧ w'.ownsRow w.heap.size T 1 v xs.length (xs.map iv) ∧ Below w.heap.size w w'
/-- What a function that returns a find comes to. -/
def NewSpc (T : TypeId) (sp : Spc) (w : World) (e : Ending) (w' : World) : Prop :=
  ∃ v, e = .returned (.agg #[.int .i64 sp.kind, .int .i64 sp.file, v]) ∧ w'.ownsRow w.heap.size T 1 v sp.roots.length (sp.roots.map iv) ∧ Below w.heap.size w w'
theorem below_drewN' {w w1 : World} (h : Below w.heap.size w w1) (n : Nat) : Below w.heap.size w (w1.drewN n) := bdN h n


theorem infoI : (Try.prog.info? 3).map (fun i => (i.zero, i.size, i.bytes)) = some (some (.int .i64 0), 1, 8) := by kernel_rfl

/-- n marks from k on. -/
def marksI (k n : Nat) : List Int := (List.range n).map (fun i => ((k + i : Nat) : Int))
theorem marksI_len (k n : Nat) : (marksI k n).length = n := by simp [marksI]
theorem marksI_get (k n i : Nat) (h : i < (marksI k n).length) : (marksI k n)[i] = ((k + i : Nat) : Int) := by simp [marksI]
theorem marksI_succ (k n : Nat) : marksI k (n + 1) = marksI k n ++ [((k + n : Nat) : Int)] := by simp [marksI, List.range_succ]
theorem marksI_set (k i : Nat) (xs : List Int) (h : i < xs.length) : ((marksI k i ++ xs.drop i).map iv).set i (iv ((k + i : Nat) : Int)) = (marksI k (i + 1) ++ xs.drop (i + 1)).map iv := by
  rw [List.map_append, List.set_append_right _ _ (by simp [marksI_len])]
  rw [List.length_map, marksI_len, Nat.sub_self, List.drop_eq_getElem_cons h, List.map_cons, List.set_cons_zero, marksI_succ, List.map_append, List.map_append, List.append_assoc]
  rfl





end Go.Proofs.Ytgecemngfpgcoaa
