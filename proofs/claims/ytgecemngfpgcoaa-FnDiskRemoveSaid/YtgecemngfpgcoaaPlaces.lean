/- The set of places: a map from places to true that the call makes; contracts of placeOf and placesOf. -/
import Derived.Test.YtgecemngfpgcoaaStmts
import Derived.Maps.OwnSet
import Derived.DeepKeys4
import Derived.KernelRfl
set_option linter.unusedVariables false
set_option linter.unusedSimpArgs false
namespace Go.Proofs.Ytgecemngfpgcoaa
open Go.RowKit Go.Proofs.Ytgecemngfpgcoaa.Nm
open Go.Maps (Keyed)

/-- A place as a value, and as a key. -/
def plVal (x : Pl) : Value := .agg #[.int .i64 x.1, .string (mk x.2.1), .string (mk x.2.2.1), .bool x.2.2.2]
theorem plLaid : laidOutB Try.prog = true := by kernel_rfl
theorem plRow : (88 : TypeId) < Try.prog.types.size := of_decide_eq_true (by kernel_rfl)
theorem plWide : (match Try.prog.underlying 88 with | some (.array _ _) | some (.struct _) => true | _ => false) = true := by kernel_rfl
theorem plDeep : Try.prog.keyTypeAt 3 88 = true := by kernel_rfl
set_option maxRecDepth 100000 in
theorem plLaw : Keyed Try.prog 88 := Keyed.of_law (deep_law_laid plLaid (m := 3) (by decide) plRow plDeep plWide)
theorem plKeyType : Try.prog.keyType 88 = true := by kernel_rfl
theorem plCells : Try.prog.cellsOf 88 = 4 := by kernel_rfl
theorem plSize : ∃ k, Try.prog.types.size = k + 1 := Nat.exists_eq_succ_of_ne_zero (fun h => by have := plRow; rw [h] at this; exact absurd this (Nat.not_lt_zero _))
theorem plC3 : Try.prog.cellsOf 3 = 1 := by kernel_rfl
theorem plC9 : Try.prog.cellsOf 9 = 1 := by kernel_rfl
theorem plC4 : Try.prog.cellsOf 4 = 1 := by kernel_rfl

def plKey (x : Pl) : Lit := .string (keyBytes [.int .i64 x.1, .string x.2.1, .string x.2.2.1, .bool x.2.2.2])
def okPl (x : Pl) : Prop := (0 ≤ x.1 ∧ x.1 ≤ 2) ∧ x.2.1.length ≤ 8000000 ∧ x.2.2.1.length ≤ 8000000

theorem keyOf_pl (x : Pl) (h : okPl x) : keyOf Try.prog 88 (plVal x) = some (plKey x) := by
  obtain ⟨⟨h1, h2⟩, h3, h4⟩ := h
  obtain ⟨k, hk⟩ := plSize
  have hf : (plVal x).formed Try.prog 88 = true := by simp [plVal, Value.formed, Try.underlying88, plCells]
  have hc : (plVal x).cells.toList = [.int .i64 x.1, .string (mk x.2.1), .string (mk x.2.2.1), .bool x.2.2.2] := rfl
  have hw : (Lit.int .i64 x.1).wf = true := WalkArith.wf_i64 (by omega)
  have hw : (Lit.int .i64 x.1).wf = true := WalkArith.wf_i64 (by omega)
  have hl : Try.prog.keyLits (k + 1 + 1) 88 (plVal x).cells.toList = some [.int .i64 x.1, .string x.2.1, .string x.2.2.1, .bool x.2.2.2] := by
    rw [hc]
    have m1 : (mk x.2.1).size ≤ maxLen := by rw [mk_size]; unfold maxLen; omega
    have m2 : (mk x.2.2.1).size ≤ maxLen := by rw [mk_size]; unfold maxLen; omega
    simp [Program.keyLits, Try.underlying88, Try.underlying3, Try.underlying9, Try.underlying4, plCells, plC3, plC9, plC4, hw, m1, m2, mk_list]
  unfold keyOf
  rw [Try.underlying88]
  dsimp only
  rw [plKeyType, hf, hk, hl]
  rfl
theorem plKey_inj {x y : Pl} (hx : okPl x) (hy : okPl y) (h : plKey x = plKey y) : x = y := by
  have e := plLaw.inj (keyOf_pl x hx) (by rw [h]; exact keyOf_pl y hy)
  obtain ⟨a, b, c, d⟩ := x
  obtain ⟨a', b', c', d'⟩ := y
  simp only [plVal, Value.agg.injEq, Array.mk.injEq, List.cons.injEq, Value.int.injEq, Value.string.injEq, Value.bool.injEq, and_true, true_and] at e
  obtain ⟨rfl, e2, e3, rfl⟩ := e
  rw [mk_inj e2, mk_inj e3]
theorem plKey_is (x : Pl) : WideAt.IsKeyLit (plKey x) := trivial

/-- A list with one more place, if it is not there. -/
def addPl (S : List Pl) (x : Pl) : List Pl := if x ∈ S then S else S ++ [x]
def dedup (xs : List Pl) : List Pl := xs.foldl addPl []
theorem mem_addPl (S : List Pl) (x y : Pl) : y ∈ addPl S x ↔ y ∈ S ∨ y = x := by
  unfold addPl; split
  · rename_i h; constructor
    · exact .inl
    · rintro (h' | rfl) <;> assumption
  · simp
theorem nodup_addPl {S : List Pl} (h : S.Nodup) (x : Pl) : (addPl S x).Nodup := by
  unfold addPl; split
  · exact h
  · rename_i hx
    rw [List.nodup_append]
    exact ⟨h, by simp, fun a ha b hb => by simp at hb; subst hb; rintro rfl; exact hx ha⟩
theorem mem_foldPl (xs S : List Pl) (y : Pl) : y ∈ xs.foldl addPl S ↔ y ∈ S ∨ y ∈ xs := by
  induction xs generalizing S with
  | nil => simp
  | cons x r ih => rw [List.foldl_cons, ih, mem_addPl]; simp [or_assoc]
theorem nodup_foldPl (xs S : List Pl) (h : S.Nodup) : (xs.foldl addPl S).Nodup := by
  induction xs generalizing S with
  | nil => exact h
  | cons x r ih => exact ih _ (nodup_addPl h x)
theorem mem_dedup {xs : List Pl} {y : Pl} : y ∈ dedup xs ↔ y ∈ xs := by unfold dedup; rw [mem_foldPl]; simp
theorem nodup_dedup (xs : List Pl) : (dedup xs).Nodup := nodup_foldPl xs [] (by simp)
theorem len_addPl (S : List Pl) (x : Pl) : (addPl S x).length ≤ S.length + 1 := by unfold addPl; split <;> simp
theorem foldPl_nodup (xs S : List Pl) (h : (S ++ xs).Nodup) : xs.foldl addPl S = S ++ xs := by
  induction xs generalizing S with
  | nil => simp
  | cons x r ih =>
    have hx : x ∉ S := fun hm => by
      rw [List.nodup_append] at h
      exact h.2.2 x hm x (by simp) rfl
    have e : addPl S x = S ++ [x] := by unfold addPl; rw [if_neg hx]
    rw [List.foldl_cons, e, ih _ (by simpa using h)]
    simp
theorem dedup_nodup {xs : List Pl} (h : xs.Nodup) : dedup xs = xs := by unfold dedup; rw [foldPl_nodup xs [] (by simpa using h)]; simp
theorem foldPl_len (xs S : List Pl) : (xs.foldl addPl S).length ≤ S.length + xs.length := by
  induction xs generalizing S with
  | nil => simp
  | cons x r ih =>
    rw [List.foldl_cons]
    have h1 := ih (addPl S x)
    have h2 := len_addPl S x
    simp; omega
theorem foldPl_full (xs S : List Pl) (hS : S.Nodup) (h : (xs.foldl addPl S).length = S.length + xs.length) : (S ++ xs).Nodup := by
  induction xs generalizing S with
  | nil => simpa using hS
  | cons x r ih =>
    rw [List.foldl_cons] at h
    have h1 := foldPl_len r (addPl S x)
    have h2 := len_addPl S x
    simp only [List.length_cons] at h
    have h3 : (addPl S x).length = S.length + 1 := by omega
    have hx : x ∉ S := fun hm => by unfold addPl at h3; rw [if_pos hm] at h3; omega
    have e : addPl S x = S ++ [x] := by unfold addPl; rw [if_neg hx]
    have := ih (addPl S x) (nodup_addPl hS x) (by omega)
    rw [e] at this
    simpa using this
theorem dedup_len (xs : List Pl) : (dedup xs).length = xs.length ↔ xs.Nodup := by
  constructor
  · intro h
    have := foldPl_full xs [] (by simp) (by unfold dedup at h; simpa using h)
    simpa using this
  · intro h; rw [dedup_nodup h]
theorem dedup_snoc (xs : List Pl) (k : Nat) (h : k < xs.length) : dedup (xs.take (k + 1)) = addPl (dedup (xs.take k)) xs[k] := by
  unfold dedup; rw [List.take_succ_eq_append_getElem h, List.foldl_append]; rfl

/-- Block b is a map that says true of just the places of S; n bounds how many there are. -/
def PlMap (w : World) (b n : Nat) (S : List Pl) : Prop :=
  S.Nodup ∧ ∃ D : DataW Unit, w.ownsMap Try.prog 88 (plainElem Try.prog 4) b n D ∧ Maps.size D = S.length ∧
    ∀ x, okPl x → Maps.has D (plKey x) = decide (x ∈ S) ∧ D.atKey (plKey x) (.lit (.bool false)) = .lit (.bool (decide (x ∈ S)))

theorem bg {w a c : World} {R : Nat} (h : Below w.heap.size w a) (hg : a.grownBy c (some R)) (hR : w.heap.size ≤ R) : Below w.heap.size w c := h.grown hg h.size (fun k e => by cases e; exact hR)
theorem gb_of {a b : World} (h : Below a.heap.size a b) : a.grownBy b none := ⟨h.os, h.tape, h.output, h.size, fun i hi _ => h.block i hi⟩
theorem PlMap.made (w : World) : PlMap (w.alloc (.map #[] 0)) w.heap.size 0 [] :=
  ⟨by simp, .map [], World.ownsMap_made _ _ _ _, rfl, fun x _ => ⟨rfl, rfl⟩⟩
theorem PlMap.kept {w w' : World} {b n : Nat} {S : List Pl} {row : Option Nat} (h : PlMap w b n S) (hg : w.grownBy w' row) (hne : some b ≠ row) : PlMap w' b n S := by
  obtain ⟨h0, D, h1, h2⟩ := h
  exact ⟨h0, D, h1.kept hg hne, h2⟩
theorem PlMap.lt {w : World} {b n : Nat} {S : List Pl} (h : PlMap w b n S) : b < w.heap.size := by
  obtain ⟨_, D, h1, _⟩ := h
  exact h1.lt
theorem PlMap.below {w w' : World} {b n : Nat} {S : List Pl} (h : PlMap w b n S) (hb : Below w.heap.size w w') : PlMap w' b n S :=
  h.kept (row := none) ⟨hb.os, hb.tape, hb.output, hb.size, fun i hi _ => hb.block i hi⟩ (by simp)
theorem PlMap.len_le {w : World} {b n : Nat} {S : List Pl} (h : PlMap w b n S) : S.length ≤ n := by
  obtain ⟨_, D, h1, h2, _⟩ := h
  have := h1.size_le
  omega

theorem plZero (w : World) : (zeroValue 4).run Try.prog w = .ok (.bool false) w := by kernel_rfl

theorem plainElem_bool_inv {P : Program} {e : TypeId} (he : P.underlying e = some .bool) {v : Value} {z : DataW Unit × List MemPlace} (h : plainElem P e v = some z) : ∃ x, v = .bool x ∧ z = (.lit (.bool x), []) := by
  unfold plainElem at h
  rw [he] at h
  cases v <;> simp at h
  exact ⟨_, rfl, h.symm⟩

theorem PlMap.put {w : World} {b n : Nat} {S : List Pl} (h : PlMap w b n S) (hn : n < maxLen) (x : Pl) (hx : okPl x) :
    ∃ w', (Instr.mapUpdate 85 (.map (some b)) (plVal x) (.bool true)).run Try.prog w = .ok () w' ∧ PlMap w' b (n + 1) (addPl S x) ∧ w.grownBy w' (some b) := by
  obtain ⟨h0, D, h1, h2, h3⟩ := h
  obtain ⟨w', hrun, hown, hg⟩ := h1.update plLaw Try.underlying85 hn (keyOf_pl x hx) (plainElem_bool Try.underlying4 true)
  refine ⟨w', hrun, ⟨nodup_addPl h0 x, _, hown, ?_, fun y hy => ?_⟩, hg⟩
  · rw [Maps.size_put (h1.tidy plLaw), (h3 x hx).1]
    unfold addPl
    by_cases hm : x ∈ S <;> simp [hm, h2]
  · have hi : Maps.IsMap D := h1.isMap
    by_cases e : y = x
    · subst e
      rw [Maps.has_put_same hi (plKey_is y), Maps.atKey_put_same hi (plKey_is y)]
      have : y ∈ addPl S y := (mem_addPl S y y).2 (.inr rfl)
      simp [this]
    · have hne : plKey y ≠ plKey x := fun h' => e (plKey_inj hy hx h')
      rw [Maps.has_put_other hne, Maps.atKey_put_other hne, (h3 y hy).1, (h3 y hy).2]
      have : (y ∈ addPl S x) ↔ y ∈ S := by rw [mem_addPl]; simp [e]
      simp [this]

theorem PlMap.get {w : World} {b n : Nat} {S : List Pl} (h : PlMap w b n S) (x : Pl) (hx : okPl x) :
    (Instr.lookup 85 (.map (some b)) (plVal x) false).run Try.prog w = .ok (.bool (decide (x ∈ S))) w := by
  obtain ⟨h0, D, h1, h2, h3⟩ := h
  obtain ⟨v, ps, hrun, hv⟩ := h1.lookup plLaw Try.underlying85 (plZero w) (plainElem_bool Try.underlying4 false) (keyOf_pl x hx)
  obtain ⟨c, rfl, hc⟩ := plainElem_bool_inv Try.underlying4 hv
  rw [hrun]
  have := congrArg Prod.fst hc
  simp only [(h3 x hx).2, DataW.lit.injEq, Lit.bool.injEq] at this
  rw [this]

theorem PlMap.len {w : World} {b n : Nat} {S : List Pl} (h : PlMap w b n S) (ty : TypeId) :
    (Builtin.len_ #[85] ty #[.map (some b)]).run Try.prog w = .ok (.int .i64 S.length) w := by
  obtain ⟨h0, D, h1, h2, h3⟩ := h
  rw [h1.len Try.underlying85 ty, h2]

theorem PlMap.del {w : World} {b n : Nat} {S : List Pl} (h : PlMap w b n S) (x : Pl) (hx : okPl x) (ty : TypeId) :
    ∃ w', (Builtin.delete_ #[85, 88] ty #[.map (some b), plVal x]).run Try.prog w = .ok (.tuple #[]) w' ∧ PlMap w' b n (S.erase x) ∧ w.grownBy w' (some b) := by
  obtain ⟨h0, D, h1, h2, h3⟩ := h
  obtain ⟨w', hrun, hown, hg⟩ := h1.drop plLaw Try.underlying85 (keyOf_pl x hx) ty
  refine ⟨w', hrun, ⟨h0.erase x, _, hown, ?_, fun y hy => ?_⟩, hg.grown⟩
  · have := Maps.size_del (k := plKey x) (h1.tidy plLaw)
    rw [(h3 x hx).1, h2] at this
    by_cases hm : x ∈ S
    · simp [hm] at this
      rw [List.length_erase_of_mem hm]; omega
    · simp [hm] at this
      rw [List.erase_of_not_mem hm]; omega
  · by_cases e : y = x
    · subst e
      rw [Maps.has_del_same, Maps.atKey_del_same]
      have : y ∉ S.erase y := fun hm => by rw [h0.mem_erase_iff] at hm; exact hm.1 rfl
      simp [this]
    · have hne : plKey y ≠ plKey x := fun h' => e (plKey_inj hy hx h')
      rw [Maps.has_del_other hne, Maps.atKey_del_other hne, (h3 y hy).1, (h3 y hy).2]
      have : (y ∈ S.erase x) ↔ y ∈ S := by rw [h0.mem_erase_iff]; simp [e]
      simp [this]

section
variable (w : World) {ops : Array Oper} {rest : List Oper} {o : Oper} {a : Act} {Q : Exit → Act → World → Prop}
theorem wp_plPut (hg : o.guard = none) (m x v : Operand) (hop : o.op = Op.mapUpdate 85 m x v) (b n : Nat) (S : List Pl) (p : Pl)
    (hm : a.eval m = .map (some b)) (hown : PlMap w b n S) (hn : n < maxLen) (hx : a.eval x = plVal p) (hp : okPl p) (hv : a.eval v = .bool true)
    (hK : ∀ w', PlMap w' b (n + 1) (addPl S p) → w.grownBy w' (some b) → wpList Try.prog ops Q rest (a.put o.dst undef) w') :
    wpList Try.prog ops Q (o :: rest) a w := by
  refine wpList_plain hg fun K' hK' => ?_
  obtain ⟨w', hrun, r1, r2⟩ := hown.put hn p hp
  unfold Oper.wp
  simp [execOp, hop, hm, hx, hv, hrun, Result.andThen]
  exact hK' _ _ (hK w' r1 r2)
theorem wp_plGet (hg : o.guard = none) (m x : Operand) (hop : o.op = Op.lookup 85 m x false) (b n : Nat) (S : List Pl) (p : Pl)
    (hm : a.eval m = .map (some b)) (hown : PlMap w b n S) (hx : a.eval x = plVal p) (hp : okPl p)
    (hK : wpList Try.prog ops Q rest (a.put o.dst (.bool (decide (p ∈ S)))) w) :
    wpList Try.prog ops Q (o :: rest) a w := by
  refine wpList_plain hg fun K' hK' => ?_
  have hrun := hown.get p hp
  generalize decide (p ∈ S) = c at *
  unfold Oper.wp
  simp [execOp, hop, hm, hx, hrun, Result.andThen]
  exact hK' _ _ hK
theorem wp_plDel (hg : o.guard = none) (m x : Operand) (hop : o.op = Op.call { callee := Callee.builtin Builtin.delete, args := #[m, x], argTypes := #[85, 88] }) (b n : Nat) (S : List Pl) (p : Pl)
    (hm : a.eval m = .map (some b)) (hown : PlMap w b n S) (hx : a.eval x = plVal p) (hp : okPl p)
    (hK : ∀ w', PlMap w' b n (S.erase p) → w.grownBy w' (some b) → wpList Try.prog ops Q rest (a.put o.dst (.tuple #[])) w') :
    wpList Try.prog ops Q (o :: rest) a w := by
  refine wpList_plain hg fun K' hK' => ?_
  obtain ⟨w', hrun, r1, r2⟩ := hown.del p hp o.type
  unfold Oper.wp
  simp [execOp, hop, resolve, invoke, builtin, hm, hx, hrun, Result.andThen]
  exact hK' _ _ (hK w' r1 r2)
theorem step_plLen {K : Act → World → Prop} {E : Prop} (hg : o.guard = none) (m : Operand) (hop : o.op = Op.call { callee := Callee.builtin Builtin.len, args := #[m], argTypes := #[85] }) (b n : Nat) (S : List Pl)
    (hm : a.eval m = .map (some b)) (hown : PlMap w b n S) (hK : K (a.put o.dst (.int .i64 S.length)) w) :
    if Region.wanted o (yielded ops a.tmps) = true then Oper.wp Try.prog o a w K Q else E := by
  have hw : Region.wanted o (yielded ops a.tmps) = true := by simp [Region.wanted, hg]
  rw [if_pos hw]
  unfold Oper.wp
  simp [execOp, hop, resolve, invoke, builtin, hm, hown.len o.type, Result.andThen]
  exact hK
end

set_option maxRecDepth 100000 in
set_option maxHeartbeats 400000 in
theorem impl_placeOf (r st : Int) (p n : Bs) (i : Bool) (bv : Value) (w : World) :
    Calls Try.prog 52 #[.agg #[.int .i64 r, .string (mk p), .string (mk n), .bool i, .int .i64 st, bv]] w
      fun e w' => e = .returned (plVal (r, p, n, i)) ∧ Below w.heap.size w w' := by
  go_enter Try.func52, Try.ntmps52
  go_wp2_with fail
  exact bodyPost_ret (v := plVal (r, p, n, i)) (by simp [results, Try.results52, go_sem, plVal]) rfl ⟨rfl, by (repeat (with_reducible first | exact Below.refl _ _ | assumption | refine ba ?_ _ | refine bd ?_ | refine bdN ?_ _ | refine bs ?_ (by first | exact Nat.le_refl _ | (dsimp only; omega) | (simp; done)) _ | refine bt ?_ (by assumption)))⟩

/-- The files have places that can be told. -/
def OkPls (fs : List Fil) : Prop := ∀ f ∈ fs, okPl (place f)
def MapOf (S : List Pl) (n : Nat) (w : World) (e : Ending) (w' : World) : Prop := ∃ b, e = .returned (.map (some b)) ∧ w.heap.size ≤ b ∧ PlMap w' b n S ∧ Below w.heap.size w w'
set_option maxRecDepth 100000 in
set_option maxHeartbeats 1000000 in
theorem impl_placesOf (v : Value) (fs : List Fil) (D : Nat → Prop) (w : World) (hr : FilsIn w D v fs) (ho : OkPls fs) (hl8 : fs.length ≤ 1000000) :
    Calls Try.prog 51 #[.agg #[v]] w (MapOf (dedup (fs.map place)) fs.length w) := by
  have Hr := Lib.hid hr
  obtain ⟨aa, ca, rfl, hl, hm⟩ := hr.len
  unfold maxLen at hm
  have Ho := Lib.hid ho
  have hmm := @run_makeMap Try.prog
  clear hr ho
  go_enter Try.func51, Try.ntmps51
  go_wp2_with fail
  go_loopw [10] (fun iv wr => ∃ k : Nat, k ≤ fs.length ∧ iv = .int .i64 k ∧ PlMap wr (w.heap.size + 1) k (dedup ((fs.map place).take k)) ∧ Below w.heap.size w wr) (fun iv _ => fs.length - (intOf iv).toNat)
  case atStart =>
    refine ⟨0, by omega, rfl, ?_, by (repeat (with_reducible first | exact Below.refl _ _ | assumption | refine ba ?_ _ | refine bd ?_ | refine bdN ?_ _ | refine bs ?_ (by first | exact Nat.le_refl _ | (dsimp only; omega) | (simp; done)) _ | refine bt ?_ (by assumption)))⟩
    have := PlMap.made (w.alloc (.cells #[.slice aa fs.length ca] 25))
    simpa [dedup] using this
  case round =>
    obtain ⟨k, hk, rfl, hpl, hbel⟩ := hrel
    have Hpl := Lib.hid hpl
    have hpb := hpl.lt
    clear hpl
    by_cases hlt : k < fs.length
    · obtain ⟨b, off, cap, bv, e, hD, hb, hbody, c0, c1, c2, c3, c4, c5⟩ := (Hr.out.below hbel).at_ hlt
      simp only [Value.slice.injEq] at e
      obtain ⟨rfl, _, rfl⟩ := e
      have Hs := Lib.hid (dedup_snoc (fs.map place) k (by simpa using hlt))
      simp only [List.getElem_map] at Hs
      have Hp := Lib.hid (Ho.out _ (List.getElem_mem hlt))
      obtain ⟨ba', bc', rfl, hbl, hbm⟩ := hbody.len
      clear hbody hbm hbl
      generalize fs[k].body.length = bn' at *
      generalize fs[k] = f at *
      obtain ⟨fr, fp, fn, fi, fst, fb⟩ := f
      dsimp only at c0 c1 c2 c3 c4 c5
      go_wp2_with (first
        | (go_at_call 52; refine (impl_placeOf _ _ _ _ _ _ _).mono ?_; (rintro _ _ ⟨rfl, hb⟩; obtain ⟨hc, hf, hs⟩ := bcell hb))
        | (at_mapUpdate; refine wp_plPut _ rfl _ _ _ rfl (w.heap.size + 1) k _ (fr, fp, fn, fi) rfl (Hpl.out.kept (row := none) (gb_of (by (repeat (with_reducible first | exact Below.refl _ _ | assumption | refine ba ?_ _ | refine bd ?_ | refine bdN ?_ _ | refine bs ?_ (by first | exact Nat.le_refl _ | (dsimp only; omega) | (simp; done)) _ | refine bt ?_ (by assumption))))) (by simp)) (by unfold maxLen; omega) rfl Hp.out rfl ?_; intro w5 hown5 hg5))
      have Hown5 := Lib.hid hown5
      clear hown5
      go_roundw
      case rel => exact ⟨k + 1, by omega, by go_num, by rw [Hs.out]; exact Hown5.out, by (repeat (with_reducible first | exact Below.refl _ _ | assumption | refine ba ?_ _ | refine bd ?_ | refine bdN ?_ _ | refine bs ?_ (by first | exact Nat.le_refl _ | (dsimp only; omega) | (simp; done)) _ | refine bt ?_ (by assumption) | refine bg ?_ (by assumption) (by omega)))⟩
      case measure => simp [intOf]; omega
    · obtain rfl : k = fs.length := by omega
      have Hf := Lib.hid (show dedup ((fs.map place).take fs.length) = dedup (fs.map place) by rw [List.take_of_length_le (by simp)])
      go_wp2_with fail
      go_ret
      exact ⟨_, rfl, by omega, by rw [← Hf.out]; exact Hpl.out, hbel⟩
end Go.Proofs.Ytgecemngfpgcoaa
