/- Statements, files and trees that came in: what they read as. -/
import Derived.Test.YtgecemngfpgcoaaTreeMem
import Derived.Deep.Slices
import Derived.Deep.Fields
import Derived.ChangeArms
set_option linter.unusedVariables false
set_option linter.unusedSimpArgs false
namespace Go.Proofs.Ytgecemngfpgcoaa
open Go.RowKit Go.ChangeShapes Go.WideShapes Go.Deep Go.Proofs.Ytgecemngfpgcoaa.Nm

theorem add_none (b off k : Nat) : (⟨b, off, none⟩ : Addr).add k = ⟨b, off + k, none⟩ := by unfold Addr.add; split <;> simp_all

section
variable {H : Type} {enc : TypeId × Value → H} {w : World} {spare : Nat → Bool} {held : Bool}

theorem read_int {n t : Nat} {cs : List Value} {y : Option (DataW H × List MemPlace)} (ht : Try.prog.underlying t = some (.int .i64)) (h : DataW.trod enc Try.prog w 0 spare held n t cs = y) (hy : y.isSome) : ∃ k : Int, cs = [.int .i64 k] := by
  obtain ⟨z, rfl⟩ := Option.isSome_iff_exists.1 hy
  obtain ⟨k, hk, _⟩ := DataW.trod_int ht h
  exact ⟨k, hk⟩
theorem read_text {n t : Nat} {cs : List Value} {y : Option (DataW H × List MemPlace)} (ht : Try.prog.underlying t = some .string) (h : DataW.trod enc Try.prog w 0 spare held n t cs = y) (hy : y.isSome) : ∃ l : Bs, cs = [.string (mk l)] ∧ l.length ≤ maxLen := by
  obtain ⟨z, rfl⟩ := Option.isSome_iff_exists.1 hy
  obtain ⟨s, hs, _, hl⟩ := DataW.trod_string ht h
  obtain ⟨l, rfl⟩ := mk_of s
  exact ⟨l, hs, by rw [mk_size] at hl; exact hl⟩
theorem read_bool {n t : Nat} {cs : List Value} {y : Option (DataW H × List MemPlace)} (ht : Try.prog.underlying t = some .bool) (h : DataW.trod enc Try.prog w 0 spare held n t cs = y) (hy : y.isSome) : ∃ b : Bool, cs = [.bool b] := by
  obtain ⟨z, rfl⟩ := Option.isSome_iff_exists.1 hy
  obtain ⟨b, hb, _⟩ := DataW.trod_bool ht h
  exact ⟨b, hb⟩

theorem pick_lt {α : Type} (z : α) {p : Nat → α → Prop} {n : Nat} (h : ∀ i, i < n → ∃ v, p i v) : ∃ F : Nat → α, ∀ i, i < n → p i (F i) :=
  ⟨fun i => if hi : i < n then Classical.choose (h i hi) else z, fun i hi => by
    dsimp only
    rw [dif_pos hi]
    exact Classical.choose_spec (h i hi)⟩

theorem rcInt : Try.prog.cellsOf 3 = 1 := by kernel_rfl
theorem rcText : Try.prog.cellsOf 9 = 1 := by kernel_rfl
theorem rcBool : Try.prog.cellsOf 4 = 1 := by kernel_rfl
theorem rcStm : Try.prog.cellsOf 134 = 5 := by kernel_rfl

set_option maxRecDepth 100000 in
theorem read_stm {n : Nat} {cs : List Value} {x : DataW H × List MemPlace} (h : DataW.trod enc Try.prog w 0 spare held n 134 cs = some x) : ∃ s : Stm, cs = stmCells s ∧ s.module.length ≤ maxLen ∧ s.name.length ≤ maxLen := by
  obtain ⟨xs, m, _, _, hl, hxl, hf⟩ := DataW.trod_struct Try.underlying134 h
  rw [rcStm] at hl
  match cs, hl with
  | [c0, c1, c2, c3, c4], _ =>
    have hs : ∀ i, i < 5 → (xs[i]?).isSome = true := fun i hi => by rw [List.getElem?_eq_getElem (by rw [hxl]; exact hi)]; rfl
    have f0 : DataW.trod enc Try.prog w 0 spare held m 3 [c0] = xs[0]? := by have h' := hf 0 _ rfl; simpa [rcInt, rcText, rcBool] using h'
    have f1 : DataW.trod enc Try.prog w 0 spare held m 9 [c1] = xs[1]? := by have h' := hf 1 _ rfl; simpa [rcInt, rcText, rcBool] using h'
    have f2 : DataW.trod enc Try.prog w 0 spare held m 3 [c2] = xs[2]? := by have h' := hf 2 _ rfl; simpa [rcInt, rcText, rcBool] using h'
    have f3 : DataW.trod enc Try.prog w 0 spare held m 9 [c3] = xs[3]? := by have h' := hf 3 _ rfl; simpa [rcInt, rcText, rcBool] using h'
    have f4 : DataW.trod enc Try.prog w 0 spare held m 3 [c4] = xs[4]? := by have h' := hf 4 _ rfl; simpa [rcInt, rcText, rcBool] using h'
    obtain ⟨k0, e0⟩ := read_int Try.underlying3 f0 (hs 0 (by omega))
    obtain ⟨l1, e1, b1⟩ := read_text Try.underlying9 f1 (hs 1 (by omega))
    obtain ⟨k2, e2⟩ := read_int Try.underlying3 f2 (hs 2 (by omega))
    obtain ⟨l3, e3, b3⟩ := read_text Try.underlying9 f3 (hs 3 (by omega))
    obtain ⟨k4, e4⟩ := read_int Try.underlying3 f4 (hs 4 (by omega))
    simp at e0 e1 e2 e3 e4
    subst e0 e1 e2 e3 e4
    exact ⟨⟨k0, l1, k2, l3, k4⟩, rfl, b1, b3⟩

theorem read_stms {n : Nat} {cs : List Value} {x : DataW H × List MemPlace} (h : DataW.trod enc Try.prog w 0 spare held n 49 cs = some x) :
    ∃ (a : Option Addr) (len cap : Nat) (ss : List Stm), cs = [.slice a len cap] ∧ ss.length = len ∧ StmsIn w (fun _ => True) (.slice a len cap) ss ∧ Short maxLen ss := by
  rcases open_slice Try.underlying49 h with ⟨rfl, _⟩ | ⟨a, len, cap, m, k, D, Pl, rfl, _, hl, hm, hmm, _, hi⟩
  · exact ⟨none, 0, 0, [], rfl, rfl, ⟨none, 0, rfl, by simp, by unfold maxLen; omega, fun hx => absurd hx (by simp)⟩, fun s hs => by cases hs⟩
  · rw [rcStm] at hi
    have hlm : len ≤ m := by rw [hmm]; split <;> omega
    obtain ⟨F, hF⟩ := pick_lt (α := Stm) ⟨0, [], 0, [], 0⟩ (p := fun i s => w.cells? 0 (a.add (i * 5)) 5 = some (stmCells s) ∧ s.module.length ≤ maxLen ∧ s.name.length ≤ maxLen) (n := m) (fun i him => by
      obtain ⟨cs', h1, h2⟩ := hi i him
      obtain ⟨s, rfl, h3, h4⟩ := read_stm h2
      exact ⟨s, h1, h3, h4⟩)
    refine ⟨some a, len, cap, (List.range len).map F, rfl, by simp, ⟨some a, cap, by simp, by simpa using hl, hm, fun hx => ?_⟩, fun s hs => ?_⟩
    · have hx' : 0 < len := by simpa using hx
      obtain ⟨_, _, hc0⟩ := World.cells?_some (hF 0 (by omega)).1
      have hc00 : w.cell? (a.add 0) = some (.int .i64 (F 0).kind) := by have := hc0 0 (by omega); rw [Go.Deep.add_add] at this; exact this
      obtain ⟨b, off, spot⟩ := a
      have hspot : spot = none := by simpa [Addr.add] using World.cell?_spot hc00
      subst hspot
      have hb : b < w.heap.size := by
        have h := World.block_lt_of_cell? w _ hc00
        simpa [Addr.add] using h
      refine ⟨b, off, rfl, trivial, hb, fun i hi' => ?_⟩
      have hil : i < len := by simpa using hi'
      obtain ⟨_, _, hc⟩ := World.cells?_some (hF i (by omega)).1
      simp only [add_none] at hc
      simp only [List.getElem_map, List.getElem_range]
      exact ⟨hc 0 (by omega), hc 1 (by omega), hc 2 (by omega), hc 3 (by omega), hc 4 (by omega)⟩
    · rw [List.mem_map] at hs
      obtain ⟨i, hi', rfl⟩ := hs
      rw [List.mem_range] at hi'
      exact (hF i (by omega)).2

theorem rcFil : Try.prog.cellsOf 51 = 6 := by kernel_rfl
theorem rcStms : Try.prog.cellsOf 49 = 1 := by kernel_rfl
/-- A file with its body's slice. -/
def filOf (f : Fil) (bv : Value) : List Value := [.int .i64 f.root, .string (mk f.pack), .string (mk f.name), .bool f.init, .int .i64 f.stamp, bv]
set_option maxRecDepth 100000 in
theorem read_fil {n : Nat} {cs : List Value} {x : DataW H × List MemPlace} (h : DataW.trod enc Try.prog w 0 spare held n 51 cs = some x) :
    ∃ (f : Fil) (bv : Value), cs = filOf f bv ∧ StmsIn w (fun _ => True) bv f.body ∧ ShortF maxLen f := by
  obtain ⟨xs, m, _, _, hl, hxl, hf⟩ := DataW.trod_struct Try.underlying51 h
  rw [rcFil] at hl
  match cs, hl with
  | [c0, c1, c2, c3, c4, c5], _ =>
    have hs : ∀ i, i < 6 → (xs[i]?).isSome = true := fun i hi => by rw [List.getElem?_eq_getElem (by rw [hxl]; exact hi)]; rfl
    have f0 : DataW.trod enc Try.prog w 0 spare held m 3 [c0] = xs[0]? := by have h' := hf 0 _ rfl; simpa [rcInt, rcText, rcBool, rcStms] using h'
    have f1 : DataW.trod enc Try.prog w 0 spare held m 9 [c1] = xs[1]? := by have h' := hf 1 _ rfl; simpa [rcInt, rcText, rcBool, rcStms] using h'
    have f2 : DataW.trod enc Try.prog w 0 spare held m 9 [c2] = xs[2]? := by have h' := hf 2 _ rfl; simpa [rcInt, rcText, rcBool, rcStms] using h'
    have f3 : DataW.trod enc Try.prog w 0 spare held m 4 [c3] = xs[3]? := by have h' := hf 3 _ rfl; simpa [rcInt, rcText, rcBool, rcStms] using h'
    have f4 : DataW.trod enc Try.prog w 0 spare held m 3 [c4] = xs[4]? := by have h' := hf 4 _ rfl; simpa [rcInt, rcText, rcBool, rcStms] using h'
    have f5 : DataW.trod enc Try.prog w 0 spare held m 49 [c5] = xs[5]? := by have h' := hf 5 _ rfl; simpa [rcInt, rcText, rcBool, rcStms] using h'
    obtain ⟨k0, e0⟩ := read_int Try.underlying3 f0 (hs 0 (by omega))
    obtain ⟨l1, e1, b1⟩ := read_text Try.underlying9 f1 (hs 1 (by omega))
    obtain ⟨l2, e2, b2⟩ := read_text Try.underlying9 f2 (hs 2 (by omega))
    obtain ⟨k3, e3⟩ := read_bool Try.underlying4 f3 (hs 3 (by omega))
    obtain ⟨k4, e4⟩ := read_int Try.underlying3 f4 (hs 4 (by omega))
    obtain ⟨y5, hy5⟩ := Option.isSome_iff_exists.1 (hs 5 (by omega))
    obtain ⟨a, len, cap, ss, e5, _, h6, h7⟩ := read_stms (f5.trans hy5)
    simp at e0 e1 e2 e3 e4 e5
    subst e0 e1 e2 e3 e4 e5
    exact ⟨⟨k0, l1, l2, k3, k4, ss⟩, _, rfl, h6, b1, b2, h7⟩

theorem read_fils {n : Nat} {cs : List Value} {x : DataW H × List MemPlace} (h : DataW.trod enc Try.prog w 0 spare held n 43 cs = some x) :
    ∃ (a : Option Addr) (len cap : Nat) (fs : List Fil), cs = [.slice a len cap] ∧ fs.length = len ∧ FilsIn w (fun _ => True) (.slice a len cap) fs ∧ ShortT maxLen fs := by
  rcases open_slice Try.underlying43 h with ⟨rfl, _⟩ | ⟨a, len, cap, m, k, D, Pl, rfl, _, hl, hm, hmm, _, hi⟩
  · exact ⟨none, 0, 0, [], rfl, rfl, ⟨none, 0, rfl, by simp, by unfold maxLen; omega, fun hx => absurd hx (by simp)⟩, fun s hs => by cases hs⟩
  · rw [rcFil] at hi
    have hlm : len ≤ m := by rw [hmm]; split <;> omega
    obtain ⟨F, hF⟩ := pick_lt (α := Fil × Value) (⟨0, [], [], false, 0, []⟩, .slice none 0 0) (p := fun i p => w.cells? 0 (a.add (i * 6)) 6 = some (filOf p.1 p.2) ∧ StmsIn w (fun _ => True) p.2 p.1.body ∧ ShortF maxLen p.1) (n := m) (fun i him => by
      obtain ⟨cs', h1, h2⟩ := hi i him
      obtain ⟨f, bv, rfl, h3, h4⟩ := read_fil h2
      exact ⟨(f, bv), h1, h3, h4⟩)
    refine ⟨some a, len, cap, (List.range len).map (fun i => (F i).1), rfl, by simp, ⟨some a, cap, by simp, by simpa using hl, hm, fun hx => ?_⟩, fun s hs => ?_⟩
    · have hx' : 0 < len := by simpa using hx
      obtain ⟨_, _, hc0⟩ := World.cells?_some (hF 0 (by omega)).1
      have hc00 : w.cell? (a.add 0) = some (.int .i64 (F 0).1.root) := by have := hc0 0 (by omega); rw [Go.Deep.add_add] at this; exact this
      obtain ⟨b, off, spot⟩ := a
      have hspot : spot = none := by simpa [Addr.add] using World.cell?_spot hc00
      subst hspot
      have hb : b < w.heap.size := by
        have h := World.block_lt_of_cell? w _ hc00
        simpa [Addr.add] using h
      refine ⟨b, off, rfl, trivial, hb, fun i hi' => ?_⟩
      have hil : i < len := by simpa using hi'
      obtain ⟨_, _, hc⟩ := World.cells?_some (hF i (by omega)).1
      simp only [add_none] at hc
      simp only [List.getElem_map, List.getElem_range]
      exact ⟨(F i).2, (hF i (by omega)).2.1, hc 0 (by omega), hc 1 (by omega), hc 2 (by omega), hc 3 (by omega), hc 4 (by omega), hc 5 (by omega)⟩
    · rw [List.mem_map] at hs
      obtain ⟨i, hi', rfl⟩ := hs
      rw [List.mem_range] at hi'
      exact (hF i (by omega)).2.2

theorem rcTree : Try.prog.cellsOf 45 = 1 := by kernel_rfl
theorem rcFils : Try.prog.cellsOf 43 = 1 := by kernel_rfl
set_option maxRecDepth 100000 in
theorem read_tree {n : Nat} {cs : List Value} {x : DataW H × List MemPlace} (h : DataW.trod enc Try.prog w 0 spare held n 45 cs = some x) :
    ∃ (a : Option Addr) (len cap : Nat) (fs : List Fil), cs = [.slice a len cap] ∧ FilsIn w (fun _ => True) (.slice a len cap) fs ∧ ShortT maxLen fs := by
  obtain ⟨xs, m, _, _, hl, hxl, hf⟩ := DataW.trod_struct Try.underlying45 h
  rw [rcTree] at hl
  match cs, hl with
  | [c0], _ =>
    have f0 : DataW.trod enc Try.prog w 0 spare held m 43 [c0] = xs[0]? := by have h' := hf 0 _ rfl; simpa [rcFils] using h'
    obtain ⟨y, hy⟩ := Option.isSome_iff_exists.1 (show (xs[0]?).isSome = true by rw [List.getElem?_eq_getElem (by rw [hxl]; exact Nat.zero_lt_one)]; rfl)
    obtain ⟨a, len, cap, fs, e, _, h1, h2⟩ := read_fils (f0.trans hy)
    exact ⟨a, len, cap, fs, e, h1, h2⟩
end
end Go.Proofs.Ytgecemngfpgcoaa
