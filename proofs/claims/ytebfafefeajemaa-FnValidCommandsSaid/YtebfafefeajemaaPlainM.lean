/- Commands as plain data: what the model's ValidCommands answers. Nothing of the program stands here. -/
import Derived.Test.YtebfafefeajemaaPlainT
set_option linter.unusedVariables false
set_option linter.unusedSimpArgs false
namespace Go.Proofs.Ytebfafefeajemaa.Nm

/-- A command: what it does, and the name. -/
structure Cmd where
  kind : Int
  name : Bs
theorem cmd_ext {a b : Cmd} (h1 : a.kind = b.kind) (h2 : a.name = b.name) : a = b := by cases a; cases b; simp_all
instance : DecidableEq Cmd := fun a b =>
  if h : a.kind = b.kind ∧ a.name = b.name then isTrue (cmd_ext h.1 h.2) else isFalse (fun e => h (by subst e; simp))
def okCmd (c : Cmd) : Bool := inr c.kind 0 2 && vn c.name
def okCmds (l : List Cmd) : Bool := l.all okCmd && decide (l.length ≤ 10)
theorem okCmds_no {l : List Cmd} (k : Nat) (h : k < l.length) (hv : okCmd l[k] = false) : okCmds l = false := by
  have : l.all okCmd = false := by rw [List.all_eq_false]; exact ⟨_, List.getElem_mem h, by simp [hv]⟩
  simp [okCmds, this]
theorem okCmds_long {l : List Cmd} (h : 10 < l.length) : okCmds l = false := by
  simp [okCmds]; omega
theorem okCmds_all {l : List Cmd} (ha : ∀ i (h : i < l.length), okCmd l[i] = true) : okCmds l = decide (l.length ≤ 10) := by
  have : l.all okCmd = true := by
    rw [List.all_eq_true]; intro s hs
    obtain ⟨i, hi, rfl⟩ := List.getElem_of_mem hs
    exact ha i hi
  simp [okCmds, this]
theorem okCmds_facts {l : List Cmd} (h : okCmds l = true) : (∀ c ∈ l, okCmd c = true) ∧ l.length ≤ 10 := by
  unfold okCmds at h; simp only [Bool.and_eq_true, decide_eq_true_eq, List.all_eq_true] at h; exact h
/-- Without one of them they are as valid. -/
theorem okCmds_without {l : List Cmd} (h : okCmds l = true) (i : Nat) : okCmds (l.take i ++ l.drop (i + 1)) = true := by
  obtain ⟨h1, h2⟩ := okCmds_facts h
  unfold okCmds
  simp only [Bool.and_eq_true, decide_eq_true_eq, List.all_eq_true]
  refine ⟨fun c hc => ?_, ?_⟩
  · rcases List.mem_append.1 hc with hc | hc
    · exact h1 c (List.mem_of_mem_take hc)
    · exact h1 c (List.mem_of_mem_drop hc)
  · rw [List.length_append, List.length_take, List.length_drop]; omega
end Go.Proofs.Ytebfafefeajemaa.Nm
