/- Plain facts on directories: what lies below a package, and what a listing tells. -/
import Derived.Test.YtolhgklbkjdpiaaGreatPlainF
import Derived.Test.YtolhgklbkjdpiaaGreatPlain4
set_option linter.unusedVariables false
set_option linter.unusedSimpArgs false
namespace Go.Proofs.YtolhgklbkjdpiaaGreat.Nm

/-- A file lies in the directory of a package, or below it. -/
def isBelow (root : Int) (p : Bs) (f : Fil) : Bool := decide (f.root = root) && (decide (f.pack = p) || isUnder f.pack p)
def belowFils (fs : List Fil) (root : Int) (p : Bs) : List Fil := fs.filter (isBelow root p)

theorem okTree_all {fs : List Fil} (h : okTree fs = true) : fs.all okFil = true ∧ (fs.map place).Nodup ∧ fs.length ≤ 12 := by
  simp only [okTree, Bool.and_eq_true, decide_eq_true_eq] at h
  exact ⟨h.1.1, h.1.2, h.2⟩

theorem isUnder_vpk {s p : Bs} (hs : vpk s = true) (hp : vpk p = true) : isUnder s p = (!s.isEmpty && under s p) := by
  unfold isUnder
  cases hs' : s.isEmpty
  · have h0 : s ≠ [] := by simpa using hs'
    simp [vn_of_vpk hs h0, hp]
  · have h0 : s = [] := by simpa using hs'
    subst h0
    simp [vn_nil]

theorem isBelow_dir {f : Fil} {root : Int} {p : Bs} (hf : okFil f = true) (hp : vpk p = true) (h0 : p ≠ []) :
    isBelow root p f = (decide (f.root = root) && !f.pack.isEmpty && under f.pack p) := by
  unfold isBelow
  rw [isUnder_vpk (okFil_pack hf) hp]
  by_cases he : f.pack = p
  · have h1 : f.pack.isEmpty = false := by rw [he]; simpa using h0
    have h2 : under f.pack p = true := by rw [he]; exact under_self
    simp [he, h1, h2]
    rw [he] at h2
    simp [h0, h2]
  · simp [he, Bool.and_assoc]

theorem dirIn_eq {fs : List Fil} {root : Int} {p : Bs} (ht : okTree fs = true) (hp : vpk p = true) :
    dirIn fs root p = (p.isEmpty || decide (0 < (belowFils fs root p).length)) := by
  by_cases h0 : p = []
  · subst h0; simp [dirIn]
  · have hall := (okTree_all ht).1
    have e : fs.any (fun f => decide (f.root = root) && !f.pack.isEmpty && under f.pack p) = fs.any (isBelow root p) := by
      rw [Bool.eq_iff_iff, List.any_eq_true, List.any_eq_true]
      constructor
      · rintro ⟨f, hf, h⟩
        exact ⟨f, hf, by rw [isBelow_dir (List.all_eq_true.1 hall f hf) hp h0]; exact h⟩
      · rintro ⟨f, hf, h⟩
        exact ⟨f, hf, by rw [isBelow_dir (List.all_eq_true.1 hall f hf) hp h0] at h; exact h⟩
    have h1 : p.isEmpty = false := by simpa using h0
    unfold dirIn
    rw [e, h1, Bool.or_false, Bool.false_or, Bool.eq_iff_iff, List.any_eq_true, decide_eq_true_eq, List.length_pos_iff_exists_mem]
    unfold belowFils
    constructor
    · rintro ⟨f, hf, h⟩; exact ⟨f, List.mem_filter.2 ⟨hf, h⟩⟩
    · rintro ⟨f, hf⟩; exact ⟨f, (List.mem_filter.1 hf).1, (List.mem_filter.1 hf).2⟩

theorem filter_snoc {α : Type} (q : α → Bool) (xs : List α) (k : Nat) (h : k < xs.length) : (xs.take (k + 1)).filter q = (xs.take k).filter q ++ (if q xs[k] then [xs[k]] else []) := by
  rw [List.take_succ_eq_append_getElem h, List.filter_append]
  congr 1
  cases hq : q xs[k] <;> simp [hq]
theorem any_snoc {α : Type} (q : α → Bool) (xs : List α) (k : Nat) (h : k < xs.length) : (xs.take (k + 1)).any q = ((xs.take k).any q || q xs[k]) := by
  rw [List.take_succ_eq_append_getElem h, List.any_append]; simp

end Go.Proofs.YtolhgklbkjdpiaaGreat.Nm
