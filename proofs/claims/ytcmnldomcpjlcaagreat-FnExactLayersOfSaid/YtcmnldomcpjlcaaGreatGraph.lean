/- The program's graph of modules: contracts of what builds it and of what is asked of it. -/
import Derived.Test.YtcmnldomcpjlcaaGreatHidden
import Derived.Test.YtcmnldomcpjlcaaGreatKin
import Derived.Test.YtcmnldomcpjlcaaGreatRelative
import Derived.Test.YtcmnldomcpjlcaaGreatPlainN
import Derived.Test.YtcmnldomcpjlcaaGreatHBox
import Derived.Maps.OwnSet
import Derived.Maps.AppendAt
import Derived.StringKeys
import Derived.Deep.RegionLaw
set_option linter.unusedVariables false
set_option linter.unusedSimpArgs false
namespace Go.Proofs.YtcmnldomcpjlcaaGreat
open Go.RowKit Go.Proofs.YtcmnldomcpjlcaaGreat.Nm

/-! ### Texts in a list. -/
set_option maxRecDepth 100000 in
set_option maxHeartbeats 400000 in
theorem slices_IndexT (v : Value) (xs : List Bs) (s : Bs) (w : World) (hr : Reads w v xs) (hx : xs.length ≤ 9500000) :
    Calls Tryz.prog 144 #[v, .string (mk s)] w fun e w' => (∃ n : Int, e = .returned (.int .i64 n) ∧ (0 ≤ n ↔ s ∈ xs)) ∧ w = w' := by
  have Hr := Lib.hid (ReadsIn.of hr)
  obtain ⟨aa, ca, rfl, hl, hm, _⟩ := ReadsIn.of hr
  unfold maxLen at hm
  clear hr
  go_enter Tryz.func144, Tryz.ntmps144
  go_wp2_with fail
  go_loop [8] (fun kv => ∃ k : Nat, k ≤ xs.length ∧ kv = .int .i64 k ∧ ∀ i (h : i < xs.length), i < k → xs[i] ≠ s) (fun kv => xs.length - (intOf kv).toNat)
  case atStart => exact ⟨0, by omega, rfl, fun i _ h => absurd h (by omega)⟩
  case round =>
    obtain ⟨k, hk, rfl, ha⟩ := hrel
    have Ha := Lib.hid ha
    clear ha
    by_cases hlt : k < xs.length
    · obtain ⟨a, cap, e, _, _, h4⟩ := Hr.out
      obtain ⟨b, off, e1, hb, hcc⟩ := h4 (by omega)
      simp only [Value.slice.injEq] at e
      obtain ⟨rfl, hnn, rfl⟩ := e
      subst e1
      have hc := hcc k hlt
      clear hcc h4 hnn
      by_cases heq : xs[k] = s
      · have Hv := Lib.hid (show s ∈ xs from heq ▸ List.getElem_mem hlt)
        rw [heq] at hc
        clear heq
        go_wp2_with fail
        go_ret
        exact ⟨⟨_, rfl, by simp [Hv.out]⟩, rfl⟩
      · have Heq := Lib.hid heq
        have hne : (s == xs[k]) = false := by rw [beq_eq_false_iff_ne]; exact fun e => heq e.symm
        clear heq
        go_wp2_with fail
        go_round
        case rel =>
          refine ⟨k + 1, by omega, by go_num, fun i h1 hi => ?_⟩
          by_cases e : i = k
          · subst e; exact Heq.out
          · exact Ha.out i h1 (by omega)
        case measure => simp [intOf]; omega
    · have Hv := Lib.hid (show s ∉ xs from fun h => by obtain ⟨i, hi, e⟩ := List.getElem_of_mem h; exact Ha.out i hi (by omega) e)
      go_wp2_with fail
      go_ret
      exact ⟨⟨_, rfl, by simp [Hv.out]⟩, rfl⟩
set_option maxRecDepth 100000 in
set_option maxHeartbeats 400000 in
theorem slices_ContainsT (v : Value) (xs : List Bs) (s : Bs) (w : World) (hr : Reads w v xs) (hx : xs.length ≤ 9500000) :
    Calls Tryz.prog 97 #[v, .string (mk s)] w fun e w' => e = .returned (.bool (decide (s ∈ xs))) ∧ w = w' := by
  go_enter Tryz.func97, Tryz.ntmps97
  go_wp2_with (go_at_call 144; refine (slices_IndexT v xs s _ hr hx).mono ?_; rintro _ _ ⟨⟨n, rfl, hn⟩, rfl⟩; have Hn := Lib.hid hn; clear hn)
  go_ret
  refine ⟨ret_bool ?_, rfl⟩
  rw [Bool.eq_iff_iff]
  simp only [decide_eq_true_eq]
  exact Hn.out
/-- What a function comes to that puts texts behind a row of one's own. -/
def NewOnto (B : Nat) (v : Value) (zs : List Bs) (w : World) (e : Ending) (w' : World) : Prop :=
  ∃ v', e = .returned v' ∧ w'.ownsRow B 9 1 v' zs.length (zs.map sv) ∧ w.grownBy w' v.ownBlock ∧ ∀ b, v'.ownBlock = some b → v.ownBlock = some b ∨ w.heap.size ≤ b
theorem dk_reflG (w : World) (r : Option Nat) : w.grownBy w r := ⟨rfl, rfl, rfl, Nat.le_refl _, fun _ _ _ => rfl⟩
theorem gb_step {a b c : World} {r r' : Option Nat} (h : a.grownBy b r) (k : b.grownBy c r') (hr : ∀ x, r' = some x → r = some x ∨ a.heap.size ≤ x) : a.grownBy c r :=
  ⟨k.os.trans h.os, k.tape.trans h.tape, k.output.trans h.output, Nat.le_trans h.size k.size, fun i hi hne => (k.block i (Nat.lt_of_lt_of_le hi h.size) (fun e => by
    rcases hr i e.symm with h1 | h1
    · exact hne h1.symm
    · omega)).trans (h.block i hi hne)⟩
set_option maxRecDepth 100000 in
set_option maxHeartbeats 2000000 in
theorem impl_withNew (B B' : Nat) (v u : Value) (xs ys : List Bs) (w : World) (hv : w.ownsRow B 9 1 v xs.length (xs.map sv)) (hB : B ≤ w.heap.size) (hu : w.ownsRow B' 9 1 u ys.length (ys.map sv)) (hne : ∀ b, u.ownBlock = some b → v.ownBlock ≠ some b) (hl : xs.length + ys.length ≤ 1048576) :
    Calls Tryz.prog 136 #[v, u] w (NewOnto B v (addNew xs ys) w) := by
  obtain ⟨i0, hi, hz0, hz1, hz2⟩ := info_parts infoS
  have Hi := Lib.hid hi
  have Hz0 := Lib.hid hz0
  have Hz1 := Lib.hid hz1
  have Hz2 := Lib.hid hz2
  have Hv := Lib.hid hv
  have Hu := Lib.hid hu
  have Hne := Lib.hid hne
  obtain ⟨va, vc, rfl⟩ := owns_shape hv
  obtain ⟨ua, uc, rfl⟩ := owns_shape hu
  clear hv hu hne hi hz0 hz1 hz2
  go_enter Tryz.func136, Tryz.ntmps136
  go_wp2_with fail
  go_loopw [0, 9] (fun dv kv wr => ∃ (k : Nat), k ≤ ys.length ∧ kv = .int .i64 k ∧ wr.ownsRow B 9 1 dv (addNew xs (ys.take k)).length ((addNew xs (ys.take k)).map sv) ∧ w.grownBy wr (Value.slice va xs.length vc).ownBlock ∧ ∀ b, dv.ownBlock = some b → (Value.slice va xs.length vc).ownBlock = some b ∨ w.heap.size ≤ b) (fun _ kv _ => ys.length - (intOf kv).toNat)
  case atStart => exact ⟨0, by omega, rfl, Hv.out, dk_reflG w _, fun b hb => .inl hb⟩
  case round =>
    obtain ⟨k, hk, rfl, hown, hg, hat⟩ := hrel
    obtain ⟨da, dc, rfl⟩ := owns_shape hown
    have Hown := Lib.hid hown
    have Hg := Lib.hid hg
    have Hat := Lib.hid hat
    have hsz := hg.size
    have hdl : (addNew xs (ys.take k)).length ≤ 1048576 := by have := addNew_len xs (ys.take k); rw [List.length_take] at this; omega
    clear hown hg hat
    by_cases hlt : k < ys.length
    · have hdl1 : (addNew xs (ys.take k)).length + 1 ≤ 1048576 := by have := addNew_len xs (ys.take k); rw [List.length_take] at this; omega
      have hrow : wr.ownsRow B' 9 1 (.slice ua ys.length uc) ys.length (ys.map sv) := owns_heap Hu.out (fun b hb => Hg.out.block b (owns_block Hu.out hb).2 (fun e => Hne.out b hb e.symm))
      obtain ⟨gl, cl, el, hgl1, hgl2⟩ := hrow.form (by omega)
      simp only [Value.slice.injEq] at el
      obtain ⟨rfl, _, rfl⟩ := el
      have hcj : wr.cell? ⟨gl, k, none⟩ = some (.string (mk ys[k])) := by
        rw [hrow.cellAt k (by omega), List.getElem?_map, List.getElem?_eq_getElem hlt]; rfl
      have Hsn := Lib.hid (addNew_snoc xs ys k hlt)
      obtain ⟨s, hs⟩ : ∃ s, s = ys[k] := ⟨_, rfl⟩
      rw [← hs] at hcj Hsn
      clear hs hrow hgl1 hgl2
      generalize addNew xs (ys.take k) = ds at *
      by_cases hm : s ∈ ds
      · have Hs2 := Lib.hid (show addNew xs (ys.take (k + 1)) = ds by rw [Hsn.out]; unfold addOne; rw [if_pos hm])
        have Hm := Lib.hid (show decide (s ∈ ds) = true from decide_eq_true hm)
        clear hm
        go_wp2_with (go_at_call 97; refine (slices_ContainsT _ ds s _ (Reads.of_owns Hown.out) (by omega)).mono ?_; rintro _ _ ⟨rfl, rfl⟩; rw [Hm.out])
        go_roundw
        case rel => exact ⟨k + 1, by omega, by go_num, by rw [Hs2.out]; exact Hown.out, Hg.out, Hat.out⟩
        case measure => simp [intOf]; omega
      · have Hs2 := Lib.hid (show addNew xs (ys.take (k + 1)) = ds ++ [s] by rw [Hsn.out]; unfold addOne; rw [if_neg hm])
        have Hm := Lib.hid (show decide (s ∈ ds) = false from decide_eq_false hm)
        clear hm
        go_wp2_with (first
          | (go_at_call 97; refine (slices_ContainsT _ ds s _ (Reads.of_owns Hown.out) (by omega)).mono ?_; rintro _ _ ⟨rfl, rfl⟩; rw [Hm.out])
          | (at_builtin; refine wpList_append_own_at _ rfl _ _ 27 rfl B 9 i0 (.string ByteArray.empty) 1 16 Tryz.underlying27 Hi.out Hz0.out Hz1.out Hz2.out rfl (by decide) _ ds.length _ rfl (Hown.out.alloc _) ⟨_, 0, none⟩ 1 1 [.string (mk s)] rfl rfl (new_one (by first | rfl | simp)) (fun x hx => by simp at hx; subst hx; rfl) (by unfold maxLen; omega) (by omega) (by simp; omega) ?_; intro v10 w10 hown10 hgrow10 hnil10 hat10))
        have Hg10 := Lib.hid (show w.grownBy w10 (Value.slice va xs.length vc).ownBlock from gb_step (gb_step Hg.out (World.grownBy_alloc wr _ none) (fun _ e => by cases e)) hgrow10 (fun x hx => Hat.out x hx))
        have Hat10 := Lib.hid (show ∀ b, v10.ownBlock = some b → (Value.slice va xs.length vc).ownBlock = some b ∨ w.heap.size ≤ b from fun b hb => by
          rcases hat10 with h | h
          · have h' : v10.ownBlock = (Value.slice da ds.length dc).ownBlock := h
            exact Hat.out b (by rw [← h']; exact hb)
          · rw [h] at hb; cases hb; right; simp; omega)
        have Hown10 := Lib.hid (show w10.ownsRow B 9 1 v10 (ds ++ [s]).length ((ds ++ [s]).map sv) by rw [List.length_append, List.map_append]; exact hown10)
        clear hown10 hgrow10 hnil10 hat10
        go_roundw
        case rel => exact ⟨k + 1, by omega, by go_num, by rw [Hs2.out]; exact Hown10.out, Hg10.out, Hat10.out⟩
        case measure => simp [intOf]; omega
    · obtain rfl : k = ys.length := by omega
      rw [List.take_length] at Hown Hat ⊢
      go_wp2_with fail
      go_ret
      refine ⟨_, rfl, ?_, Hg.out, fun b hb => Hat.out b hb⟩
      exact Hown.out
set_option maxRecDepth 100000 in
set_option maxHeartbeats 1000000 in
theorem impl_neededBy (k lv x : Int) (m n p : Bs) (w : World) (hm : m.length ≤ 2000000) (hp : p.length ≤ 2000000) :
    Calls Tryz.prog 161 #[.agg #[.int .i64 k, .string (mk m), .int .i64 lv, .string (mk n), .int .i64 x], .string (mk p)] w fun e w' => e = .returned (.string (mk (needBy p ⟨k, m, lv, n, x⟩))) ∧ Below w.heap.size w w' := by
  by_cases h0 : k = 0
  · have Hv := Lib.hid (show needBy p ⟨k, m, lv, n, x⟩ = m by unfold needBy; simp [h0])
    subst h0
    go_enter Tryz.func161, Tryz.ntmps161
    go_wp2_with fail
    go_ret
    rw [Hv.out]
    exact ⟨rfl, by (repeat (with_reducible first | exact Below.refl _ _ | assumption | refine ba ?_ _ | refine bd ?_ | refine bdN ?_ _ | refine bs ?_ (by first | exact Nat.le_refl _ | (dsimp only; omega) | (simp; done)) _ | refine bt ?_ (by assumption)))⟩
  by_cases h2 : k = 2
  · have Hv := Lib.hid (show needBy p ⟨k, m, lv, n, x⟩ = m by unfold needBy; simp [h2])
    subst h2
    clear h0
    go_enter Tryz.func161, Tryz.ntmps161
    go_wp2_with fail
    go_ret
    rw [Hv.out]
    exact ⟨rfl, by (repeat (with_reducible first | exact Below.refl _ _ | assumption | refine ba ?_ _ | refine bd ?_ | refine bdN ?_ _ | refine bs ?_ (by first | exact Nat.le_refl _ | (dsimp only; omega) | (simp; done)) _ | refine bt ?_ (by assumption)))⟩
  by_cases h1 : k = 1
  · have Hv := Lib.hid (show needBy p ⟨k, m, lv, n, x⟩ = resolved p lv m by unfold needBy; simp [h1])
    subst h1
    clear h0 h2
    go_enter Tryz.func161, Tryz.ntmps161
    go_wp2_with (go_at_call 179; refine (impl_ResolveName p m lv _ hp hm).mono ?_; (rintro _ _ ⟨rfl, hb⟩; obtain ⟨hc, hf, hs⟩ := bcell hb))
    go_ret
    rw [Hv.out]
    exact ⟨rfl, by (repeat (with_reducible first | exact Below.refl _ _ | assumption | refine ba ?_ _ | refine bd ?_ | refine bdN ?_ _ | refine bs ?_ (by first | exact Nat.le_refl _ | (dsimp only; omega) | (simp; done)) _ | refine bt ?_ (by assumption)))⟩
  · have Hv := Lib.hid (show needBy p ⟨k, m, lv, n, x⟩ = [] by unfold needBy; simp [h0, h1, h2])
    go_enter Tryz.func161, Tryz.ntmps161
    go_wp2_with fail
    go_ret
    rw [Hv.out]
    exact ⟨rfl, by (repeat (with_reducible first | exact Below.refl _ _ | assumption | refine ba ?_ _ | refine bd ?_ | refine bdN ?_ _ | refine bs ?_ (by first | exact Nat.le_refl _ | (dsimp only; omega) | (simp; done)) _ | refine bt ?_ (by assumption)))⟩
/-! ### The map from names to files. -/
def fmR (v : Value) : Option (DataW Value × List MemPlace) := some (.held v, [])
def filAgg (f : Fil) (bv : Value) : Value := .agg #[.int .i64 f.root, .string (mk f.pack), .string (mk f.name), .bool f.init, .int .i64 f.stamp, bv]
def zeroFil : Fil := ⟨0, [], [], false, 0, []⟩
theorem fmZero (w : World) : (zeroValue 79).run Tryz.prog w = .ok (filAgg zeroFil (.slice none 0 0)) w := by kernel_rfl
theorem fmKey (s : Bs) (h : s.length ≤ 8000000) : keyOf Tryz.prog 9 (.string (mk s)) = some (.string s) := by
  have := Go.WideMaps.keyOf_string_mk (P := Tryz.prog) (k := 9) Tryz.underlying9 (s := mk s) (by rw [mk_size]; unfold maxLen; omega)
  rw [mk_list] at this; exact this
theorem fmLaw : Maps.Keyed Tryz.prog 9 := Maps.string_keyed Tryz.underlying9
/-- Block b is a map that has just the values M. -/
def FMap (w : World) (b n : Nat) (M : Bs → Option Value) : Prop :=
  ∃ D : DataW Value, w.ownsMap Tryz.prog 9 fmR b n D ∧ ∀ s : Bs, s.length ≤ 8000000 → ∀ z : Value, D.atKey (.string s) (.held z) = .held ((M s).getD z)
theorem FMap.made (w : World) : FMap (w.alloc (.map #[] 0)) w.heap.size 0 (fun _ => none) := ⟨.map [], World.ownsMap_made _ _ _ _, fun _ _ _ => rfl⟩
theorem FMap.kept {w w' : World} {b n : Nat} {M : Bs → Option Value} {row : Option Nat} (h : FMap w b n M) (hg : w.grownBy w' row) (hne : some b ≠ row) : FMap w' b n M := by
  obtain ⟨D, h1, h2⟩ := h
  exact ⟨D, h1.kept hg hne, h2⟩
theorem FMap.lt {w : World} {b n : Nat} {M : Bs → Option Value} (h : FMap w b n M) : b < w.heap.size := by
  obtain ⟨D, h1, _⟩ := h
  exact h1.lt
theorem FMap.below {w w' : World} {b n : Nat} {M : Bs → Option Value} (h : FMap w b n M) (hb : Below w.heap.size w w') : FMap w' b n M :=
  h.kept (row := none) ⟨hb.os, hb.tape, hb.output, hb.size, fun i hi _ => hb.block i hi⟩ (by simp)
theorem FMap.mono {w : World} {b n m : Nat} {M : Bs → Option Value} (h : FMap w b n M) (hn : n ≤ m) : FMap w b m M := by
  obtain ⟨D, h1, h2⟩ := h
  exact ⟨D, h1.mono hn, h2⟩
theorem FMap.put {w : World} {b n : Nat} {M : Bs → Option Value} (h : FMap w b n M) (hn : n < maxLen) (s : Bs) (hs : s.length ≤ 8000000) (v : Value) :
    ∃ w', (Instr.mapUpdate 68 (.map (some b)) (.string (mk s)) v).run Tryz.prog w = .ok () w' ∧ FMap w' b (n + 1) (fun x => if x = s then some v else M x) ∧ w.grownBy w' (some b) := by
  obtain ⟨D, h1, h2⟩ := h
  obtain ⟨w', hrun, hown, hg⟩ := h1.update fmLaw Tryz.underlying68 hn (fmKey s hs) (show fmR v = some (.held v, []) from rfl)
  refine ⟨w', hrun, ⟨_, hown, fun x hx z => ?_⟩, hg⟩
  by_cases e : x = s
  · subst e
    rw [Maps.atKey_put_same h1.isMap (show WideAt.IsKeyLit (Lit.string x) from trivial)]; simp
  · have hne : Lit.string x ≠ Lit.string s := fun h => e (by simpa using h)
    rw [Maps.atKey_put_other hne, h2 x hx z]; dsimp only; rw [if_neg e]
theorem FMap.get {w : World} {b n : Nat} {M : Bs → Option Value} (h : FMap w b n M) (s : Bs) (hs : s.length ≤ 8000000) :
    (Instr.lookup 68 (.map (some b)) (.string (mk s)) false).run Tryz.prog w = .ok ((M s).getD (filAgg zeroFil (.slice none 0 0))) w := by
  obtain ⟨D, h1, h2⟩ := h
  obtain ⟨v, ps, hrun, hv⟩ := h1.lookup fmLaw Tryz.underlying68 (fmZero w) (show fmR _ = some (.held _, []) from rfl) (fmKey s hs)
  rw [hrun]
  have e1 : (DataW.held v : DataW Value) = D.atKey (.string s) (.held (filAgg zeroFil (.slice none 0 0))) := congrArg Prod.fst (Option.some.inj hv)
  rw [h2 s hs] at e1
  cases e1; rfl
/-- The graph of the first k files. -/
def GraphK (w : World) (D : Nat → Prop) (fs : List Fil) (path : List Int) (b k : Nat) : Prop :=
  ∃ M, FMap w b k M ∧ ∀ s, match gAt fs path k s with
    | none => M s = none
    | some i => ∃ (f : Fil) (a : Option Addr) (c : Nat), fs[i]? = some f ∧ M s = some (filAgg f (.slice a f.body.length c)) ∧ StmsIn w D (.slice a f.body.length c) f.body
/-- What the program has as a graph: nothing where a tree or a path is not valid. -/
def GraphV (w : World) (D : Nat → Prop) (fs : List Fil) (path : List Int) (g : Value) : Prop :=
  (g = .map none ∧ okLook fs path = false) ∨ (okLook fs path = true ∧ ∃ b, g = .map (some b) ∧ GraphK w D fs path b fs.length)
theorem GraphK.below {w w' : World} {D : Nat → Prop} {fs : List Fil} {path : List Int} {b k : Nat} (h : GraphK w D fs path b k) (hb : Below w.heap.size w w') : GraphK w' D fs path b k := by
  obtain ⟨M, h1, h2⟩ := h
  refine ⟨M, h1.below hb, fun s => ?_⟩
  have h3 := h2 s
  cases e : gAt fs path k s with
  | none => rw [e] at h3; exact h3
  | some i =>
    rw [e] at h3
    obtain ⟨f, a, c, g1, g2, g3⟩ := h3
    exact ⟨f, a, c, g1, g2, g3.below hb⟩
theorem GraphV.below {w w' : World} {D : Nat → Prop} {fs : List Fil} {path : List Int} {g : Value} (h : GraphV w D fs path g) (hb : Below w.heap.size w w') : GraphV w' D fs path g := by
  rcases h with h | ⟨h1, b, h2, h3⟩
  · exact .inl h
  · exact .inr ⟨h1, b, h2, h3.below hb⟩
/-- What is looked up of a name. -/
theorem GraphV.get {w : World} {D : Nat → Prop} {fs : List Fil} {path : List Int} {b : Nat} (hl : okLook fs path = true) (h : GraphK w D fs path b fs.length) (s : Bs) (hs : s.length ≤ 8000000) :
    ∃ (f : Fil) (a : Option Addr) (c : Nat), (Instr.lookup 68 (.map (some b)) (.string (mk s)) false).run Tryz.prog w = .ok (filAgg f (.slice a f.body.length c)) w ∧ StmsIn w D (.slice a f.body.length c) f.body ∧ ((fileFor fs path s = some f) ∨ (fileFor fs path s = none ∧ f = zeroFil)) := by
  obtain ⟨M, h1, h2⟩ := h
  have h3 := h2 s
  have hg := gAt_all hl s
  cases e : gAt fs path fs.length s with
  | none =>
    rw [e] at h3 hg
    refine ⟨zeroFil, none, 0, by rw [h1.get s hs, h3]; rfl, ⟨none, 0, rfl, by simp [zeroFil], by unfold maxLen; omega, fun hx => absurd hx (by simp [zeroFil])⟩, .inr ⟨hg.symm, rfl⟩⟩
  | some i =>
    rw [e] at h3 hg
    obtain ⟨f, a, c, g1, g2, g3⟩ := h3
    refine ⟨f, a, c, by rw [h1.get s hs, g2]; rfl, g3, .inl ?_⟩
    rw [← hg]; simpa using g1
theorem GraphK.zero {w : World} {D : Nat → Prop} {fs : List Fil} {path : List Int} {b : Nat} (h : FMap w b 0 (fun _ => none)) : GraphK w D fs path b 0 := ⟨_, h, fun s => by rw [gAt_zero]⟩
theorem GraphK.skip {w : World} {D : Nat → Prop} {fs : List Fil} {path : List Int} {b k : Nat} (h : GraphK w D fs path b k) (hk : k < fs.length) (hf : foundFor fs path fs[k] ≠ (k : Int)) : GraphK w D fs path b (k + 1) := by
  obtain ⟨M, h1, h2⟩ := h
  exact ⟨M, h1.mono (by omega), fun s => by rw [gAt_no hk hf]; exact h2 s⟩
theorem GraphK.more {w' : World} {D : Nat → Prop} {fs : List Fil} {path : List Int} {b k : Nat} {M : Bs → Option Value} (hk : k < fs.length) (f0 : Fil) (he : f0 = fs[k]) (hf : foundFor fs path fs[k] = (k : Int)) {a : Option Addr} {c : Nat}
    (h : FMap w' b (k + 1) (fun x => if x = modName f0 then some (filAgg f0 (.slice a f0.body.length c)) else M x)) (hs : StmsIn w' D (.slice a f0.body.length c) f0.body)
    (h2 : ∀ s, match gAt fs path k s with | none => M s = none | some i => ∃ (f : Fil) (a : Option Addr) (c : Nat), fs[i]? = some f ∧ M s = some (filAgg f (.slice a f.body.length c)) ∧ StmsIn w' D (.slice a f.body.length c) f.body) : GraphK w' D fs path b (k + 1) := by
  subst he
  refine ⟨_, h, fun s => ?_⟩
  rw [gAt_yes hk hf]
  by_cases e : s = modName fs[k]
  · rw [if_pos e]
    exact ⟨fs[k], a, c, List.getElem?_eq_getElem hk, by rw [if_pos e], hs⟩
  · rw [if_neg e]
    have h3 := h2 s
    cases eg : gAt fs path k s with
    | none => rw [eg] at h3; dsimp only at h3 ⊢; rw [if_neg e]; exact h3
    | some i =>
      rw [eg] at h3
      obtain ⟨f, a', c', g1, g2, g3⟩ := h3
      exact ⟨f, a', c', g1, by rw [if_neg e]; exact g2, g3⟩
set_option maxRecDepth 100000 in
set_option maxHeartbeats 4000000 in
theorem impl_graphOf (v : Value) (fs : List Fil) (D : Nat → Prop) (pv : Value) (path : List Int) (w : World) (hr : FilsIn w D v fs) (hz : ShortT 2000000 fs) (hp : IntsIn w pv path) :
    Calls Tryz.prog 86 #[.agg #[v], pv] w fun e w' => ∃ g, e = .returned g ∧ GraphV w' (fun b => b < w.heap.size) fs path g ∧ Below w.heap.size w w' := by
  obtain ⟨D', hD'⟩ : ∃ D' : Nat → Prop, D' = fun b => b < w.heap.size := ⟨_, rfl⟩
  rw [← hD']
  have hr := hr.mono (D' := D') (fun b hb _ => by rw [hD']; exact hb)
  have HD' := Lib.hid hD'
  clear hD'
  have Hr := Lib.hid hr
  have Hz := Lib.hid hz
  have Hp := Lib.hid hp
  obtain ⟨aa, ca, rfl, hl, hm⟩ := hr.len
  obtain ⟨pa, pc, rfl, hl1, hm1⟩ := hp.len
  have HX := Lib.hid (HB.new w #[.slice aa fs.length ca] 31)
  clear hr hz hp hl hm hl1 hm1
  cases hok : okLook fs path
  · have Hok := Lib.hid hok
    clear hok
    go_enter Tryz.func86, Tryz.ntmps86
    go_wp2_with (go_at_call 100; refine (impl_validLook _ fs D' _ path _ (Hr.out.below (by (repeat (with_reducible first | exact Below.refl _ _ | assumption | refine ba ?_ _ | refine bd ?_ | refine bdN ?_ _ | refine bs ?_ (by first | exact Nat.le_refl _ | (dsimp only; omega) | (simp; done)) _ | refine bt ?_ (by assumption))))) Hz.out (Hp.out.below (by (repeat (with_reducible first | exact Below.refl _ _ | assumption | refine ba ?_ _ | refine bd ?_ | refine bdN ?_ _ | refine bs ?_ (by first | exact Nat.le_refl _ | (dsimp only; omega) | (simp; done)) _ | refine bt ?_ (by assumption)))))).mono ?_; (rintro _ _ ⟨rfl, hb⟩; obtain ⟨hc, hf, hs⟩ := bcell hb); rw [Hok.out])
    go_ret
    exact ⟨_, rfl, .inl ⟨rfl, Hok.out⟩, by (repeat (with_reducible first | exact Below.refl _ _ | assumption | refine ba ?_ _ | refine bd ?_ | refine bdN ?_ _ | refine bs ?_ (by first | exact Nat.le_refl _ | (dsimp only; omega) | (simp; done)) _ | refine bt ?_ (by assumption)))⟩
  · have Hok := Lib.hid hok
    have Ht := Lib.hid (okLook_tree hok)
    have h3 := okPath_len (okLook_path hok)
    have h12 := (okTree_all (okLook_tree hok)).2.2
    clear hok
    have hmm := @run_makeMap Tryz.prog
    go_enter Tryz.func86, Tryz.ntmps86
    go_wp2_with (go_at_call 100; refine (impl_validLook _ fs D' _ path _ (Hr.out.below (by (repeat (with_reducible first | exact Below.refl _ _ | assumption | refine ba ?_ _ | refine bd ?_ | refine bdN ?_ _ | refine bs ?_ (by first | exact Nat.le_refl _ | (dsimp only; omega) | (simp; done)) _ | refine bt ?_ (by assumption))))) Hz.out (Hp.out.below (by (repeat (with_reducible first | exact Below.refl _ _ | assumption | refine ba ?_ _ | refine bd ?_ | refine bdN ?_ _ | refine bs ?_ (by first | exact Nat.le_refl _ | (dsimp only; omega) | (simp; done)) _ | refine bt ?_ (by assumption)))))).mono ?_; rintro _ w5 ⟨rfl, hb5⟩; rw [Hok.out]; have HX5 := Lib.hid (HX.out.step hb5); have Hb5 := Lib.hid (show Below w.heap.size w w5 by (repeat (with_reducible first | exact Below.refl _ _ | assumption | refine ba ?_ _ | refine bd ?_ | refine bdN ?_ _ | refine bs ?_ (by first | exact Nat.le_refl _ | (dsimp only; omega) | (simp; done)) _ | refine bt ?_ (by assumption)))); have x0 := HX5.out.cell 0; have l5 := HX5.out.lt; clear hb5)
    clear hmm
    obtain ⟨wm, hwm⟩ : ∃ x, x = w5.alloc (.map #[] 0) := ⟨_, rfl⟩
    rw [← hwm]
    have HM0 := Lib.hid (show GraphK wm D' fs path w5.heap.size 0 by rw [hwm]; exact GraphK.zero (FMap.made w5))
    have HXm := Lib.hid (show HB wm w.heap.size 31 #[.slice aa fs.length ca] by rw [hwm]; exact HX5.out.alloc _)
    have Hbm := Lib.hid (show Below w.heap.size w wm by rw [hwm]; exact ba Hb5.out _)
    have hms : wm.heap.size = w5.heap.size + 1 := by rw [hwm]; simp
    clear hwm x0
    go_loopw [16] (fun kv wr => ∃ (k : Nat), k ≤ fs.length ∧ kv = .int .i64 k ∧ GraphK wr D' fs path w5.heap.size k ∧ HB wr w.heap.size 31 #[.slice aa fs.length ca] ∧ Below w.heap.size w wr ∧ w5.heap.size < wr.heap.size) (fun kv _ => fs.length - (intOf kv).toNat)
    case atStart => exact ⟨0, by omega, rfl, HM0.out, HXm.out, Hbm.out, by omega⟩
    case round =>
      obtain ⟨k, hk, rfl, hgr, hbx, hbel, hsz⟩ := hrel
      have Hgr := Lib.hid hgr
      have Hbx := Lib.hid hbx
      have Hbel := Lib.hid hbel
      have hbxl := hbx.lt
      have hbels := hbel.size
      clear hgr hbx hbel
      by_cases hlt : k < fs.length
      · obtain ⟨b, off, cap, bv, e, hD, hb, hbody, c0, c1, c2, c3, c4, c5⟩ := Hr.out.at_ hlt
        simp only [Value.slice.injEq] at e
        obtain ⟨rfl, hnn, rfl⟩ := e
        obtain ⟨sa, sc, rfl, _, _⟩ := hbody.len
        clear hnn
        have d0 := (Hbel.out.cell (p := ⟨b, off + k * 6, none⟩) hb).trans c0
        have d1 := (Hbel.out.cell (p := ⟨b, off + k * 6 + 1, none⟩) hb).trans c1
        have d2 := (Hbel.out.cell (p := ⟨b, off + k * 6 + 2, none⟩) hb).trans c2
        have d3 := (Hbel.out.cell (p := ⟨b, off + k * 6 + 3, none⟩) hb).trans c3
        have d4 := (Hbel.out.cell (p := ⟨b, off + k * 6 + 4, none⟩) hb).trans c4
        have d5 := (Hbel.out.cell (p := ⟨b, off + k * 6 + 5, none⟩) hb).trans c5
        clear c0 c1 c2 c3 c4 c5
        have Hbody := Lib.hid hbody
        have hokf := okTree_file Ht.out (List.getElem_mem hlt)
        have Hmod := Lib.hid (okFil_mod hokf).1
        have hpk := vpk_len (okFil_pack hokf)
        have hnl : fs[k].name.length ≤ 2000000 := (Hz.out _ (List.getElem_mem hlt)).2.1
        have hml := vn_len (okFil_mod hokf).2
        have Hsk := Lib.hid (fun (w' : World) (h : GraphK w' D' fs path w5.heap.size k) (hf : foundFor fs path fs[k] ≠ (k : Int)) => h.skip hlt hf)
        have x0 := Hbx.out.cell 0
        obtain ⟨n, hn⟩ : ∃ n, n = foundFor fs path fs[k] := ⟨_, rfl⟩
        have Hn := Lib.hid hn
        have hk1 : (k : Int) < (fs.length : Int) := by omega
        have hk0 : (0 : Int) ≤ (k : Int) := by omega
        obtain ⟨f, hf⟩ : ∃ f, f = fs[k] := ⟨_, rfl⟩
        have Hf := Lib.hid hf
        rw [← hf] at d0 d1 d2 d3 d4 d5 Hbody Hmod hpk hnl hml
        clear hbody hokf hn
        rw [← hf] at hf
        obtain ⟨fr, fp, fn, fi, fst, fb⟩ := f
        dsimp only at d0 d1 d2 d3 d4 d5 hpk hnl
        obtain ⟨W6, hW6⟩ : ∃ W, W = wr.alloc (.cells #[.int .i64 fr, .string (mk fp), .string (mk fn), .bool fi, .int .i64 fst, .slice sa fb.length sc] 79) := ⟨_, rfl⟩
        have HF6 := Lib.hid (show HB W6 wr.heap.size 79 #[.int .i64 fr, .string (mk fp), .string (mk fn), .bool fi, .int .i64 fst, .slice sa fb.length sc] by rw [hW6]; exact HB.new _ _ _)
        have HX6 := Lib.hid (show HB W6 w.heap.size 31 #[.slice (some ⟨b, off, none⟩) fs.length ca] by rw [hW6]; exact Hbx.out.alloc _)
        have HG6 := Lib.hid (show GraphK W6 D' fs path w5.heap.size k by rw [hW6]; exact Hgr.out.below (ba (Below.refl _ _) _))
        have Hb6 := Lib.hid (show Below wr.heap.size wr W6 by rw [hW6]; exact ba (Below.refl _ _) _)
        have hs6 : W6.heap.size = wr.heap.size + 1 := by rw [hW6]; simp
        have HW6 := Lib.hid hW6
        clear hW6
        have Hbw := Lib.hid (Hbel.out.trans (Hb6.out.mono hbels))
        have hfl : wr.heap.size < W6.heap.size := by omega
        have hxl : w.heap.size < W6.heap.size := by omega
        by_cases hnk : n = (k : Int)
        · have Hnk := Lib.hid hnk
          have hnb : (n == (k : Int)) = true := by simp [hnk]
          clear hnk
          go_wp2_with (go_at_call 134; rw [← HW6.out]; refine (impl_foundFor _ fs D' _ path k _ (Hr.out.below Hbw.out) Hz.out Ht.out (Hp.out.below Hbw.out) (by omega) hlt).mono ?_; rintro _ w7 ⟨rfl, hb7⟩; rw [← Hn.out, Hnk.out]; have Hb7 := Lib.hid hb7; have y0 := (HF6.out.step hb7).cell 0; have y1 := (HF6.out.step hb7).cell 1; have y2 := (HF6.out.step hb7).cell 2; have y3 := (HF6.out.step hb7).cell 3; have y4 := (HF6.out.step hb7).cell 4; have y5 := (HF6.out.step hb7).cell 5; have hl7 : wr.heap.size < w7.heap.size := (HF6.out.step hb7).lt; clear hb7)
          obtain ⟨M, hM, hMs⟩ := HG6.out.below Hb7.out
          have HM := Lib.hid hM
          have HMs := Lib.hid hMs
          have hm5 := hM.lt
          clear hM hMs
          go_wp2_with fail
          go_region_law (first
            | (go_simp; go_at_call 135; refine (impl_moduleAt fr fst fp fn fi _ fb _ (by omega) (by omega)).mono ?_; rintro _ w8 ⟨rfl, hb8⟩; rw [Hmod.out]; have Hb8 := Lib.hid (show Below w7.heap.size w7 w8 by (repeat (with_reducible first | exact Below.refl _ _ | assumption | refine ba ?_ _ | refine bd ?_ | refine bdN ?_ _ | refine bs ?_ (by first | exact Nat.le_refl _ | (dsimp only; omega) | (simp; done)) _ | refine bt ?_ (by assumption)))); have hF8 := (HF6.out.step Hb7.out).step Hb8.out; have z0 := hF8.cell 0; have z1 := hF8.cell 1; have z2 := hF8.cell 2; have z3 := hF8.cell 3; have z4 := hF8.cell 4; have z5 := hF8.cell 5; obtain ⟨w9, hrun9, h9, hg9⟩ := (HM.out.below Hb8.out).put (by unfold maxLen; omega) (modName ⟨fr, fp, fn, fi, fst, fb⟩) (by omega) (filAgg ⟨fr, fp, fn, fi, fst, fb⟩ (.slice sa fb.length sc)); simp only [filAgg] at hrun9; have H9 := Lib.hid h9; have Hg9 := Lib.hid hg9; clear hb8 hF8 h9 hg9))
          have HB9 := Lib.hid (Hbw.out.trans (Hb7.out.mono (by omega)))
          all_goals
            go_wp2_with fail
            have hb9 : Below w.heap.size w w9 := ((Hbw.out.trans (Hb7.out.mono (by omega))).trans (Hb8.out.mono (by have := Hb7.out.size; omega))).grown Hg9.out (by have := Hb7.out.size; have := Hb8.out.size; omega) (fun g hg => by cases hg; exact Hb5.out.size)
            have hb79 : ∀ x, x < w.heap.size → w9.heap[x]? = w7.heap[x]? := fun x hx => by rw [hb9.block x hx, (Hbw.out.trans (Hb7.out.mono (by omega))).block x hx]
            have hsz9 := hb9.size
            go_roundw
            case rel =>
              refine ⟨k + 1, by omega, by go_num, GraphK.more hlt _ Hf.out (by rw [← Hn.out]; exact Hnk.out) H9.out (Hbody.out.below hb9) (fun s => ?_), ?_, hb9, ?_⟩
              · have h3 := HMs.out s
                cases eg : gAt fs path k s with
                | none => rw [eg] at h3; exact h3
                | some i =>
                  rw [eg] at h3
                  obtain ⟨f, a', c', g1, g2, g3⟩ := h3
                  exact ⟨f, a', c', g1, g2, g3.keep (Nat.le_trans Hb8.out.size Hg9.out.size) (fun x hx _ => hb79 x (by have h := hx; rw [HD'.out] at h; exact h))⟩
              · exact (((HX6.out.step Hb7.out).step Hb8.out)).grown Hg9.out (by simp only [ne_eq, Option.some.injEq]; omega)
              · have := Hg9.out.size; have := Hb8.out.size; have := Hb7.out.size; omega
            case measure => simp [intOf]; omega
        · have Hnk := Lib.hid hnk
          have hnb : (n == (k : Int)) = false := by simp [hnk]
          clear hnk
          go_wp2_with (go_at_call 134; rw [← HW6.out]; refine (impl_foundFor _ fs D' _ path k _ (Hr.out.below Hbw.out) Hz.out Ht.out (Hp.out.below Hbw.out) (by omega) hlt).mono ?_; rintro _ w7 ⟨rfl, hb7⟩; rw [← Hn.out]; have Hb7 := Lib.hid hb7; clear hb7)
          go_roundw
          case rel => exact ⟨k + 1, by omega, by go_num, Hsk.out _ (HG6.out.below Hb7.out) (by rw [← Hn.out]; exact Hnk.out), HX6.out.step Hb7.out, Hbw.out.trans (Hb7.out.mono (by omega)), by have := Hb7.out.size; omega⟩
          case measure => simp [intOf]; omega
      · obtain rfl : k = fs.length := by omega
        go_wp2_with fail
        go_ret
        exact ⟨_, rfl, .inr ⟨Hok.out, _, rfl, Hgr.out⟩, Hbel.out⟩

/-! ### The program's needs and edges of a graph: contracts. -/
set_option maxRecDepth 100000 in
theorem fmNil (w : World) (s : Bs) (hs : s.length ≤ 8000000) : (Instr.lookup 68 (.map none) (.string (mk s)) false).run Tryz.prog w = .ok (filAgg zeroFil (.slice none 0 0)) w := by
  have hc := fmLaw.check w true (fmKey s hs)
  have hf : (Instr.findKey 9 (.string (mk s)) []).run Tryz.prog w = .ok none w := by
    rcases fmLaw.find w (fmKey s hs) [] (by simp) with h | ⟨_, _, h, _⟩
    · exact h.1
    · cases h
  simp [Instr.lookup, run_underlying (P := Tryz.prog) Tryz.underlying68, hc, fmZero w, Result.andThen, hf]
/-- What is looked up of a name in any graph. -/
theorem GraphV.look {w : World} {D : Nat → Prop} {fs : List Fil} {path : List Int} {g : Value} (h : GraphV w D fs path g) (s : Bs) (hs : s.length ≤ 8000000) :
    ∃ (f : Fil) (a : Option Addr) (c : Nat), (Instr.lookup 68 g (.string (mk s)) false).run Tryz.prog w = .ok (filAgg f (.slice a f.body.length c)) w ∧ StmsIn w D (.slice a f.body.length c) f.body ∧ ((fileFor fs path s = some f) ∨ (fileFor fs path s = none ∧ f = zeroFil)) := by
  rcases h with ⟨rfl, hno⟩ | ⟨hok, b, rfl, hgk⟩
  · exact ⟨zeroFil, none, 0, fmNil w s hs, ⟨none, 0, rfl, by simp [zeroFil], by unfold maxLen; omega, fun hx => absurd hx (by simp [zeroFil])⟩, .inr ⟨fileFor_no (by rw [(findSpec_ok fs path s).none (by unfold findSpec; rw [hno]; rfl)]; decide), rfl⟩⟩
  · exact GraphV.get hok hgk s hs
theorem bodyNeeds_nil (p : Bs) : bodyNeeds p [] = [] := rfl
theorem needsOf_get {fs : List Fil} {path : List Int} {s : Bs} {f : Fil} (h : (fileFor fs path s = some f) ∨ (fileFor fs path s = none ∧ f = zeroFil)) : needsOf fs path s = bodyNeeds f.pack f.body ∧ okBody f.body = true ∧ f.pack.length ≤ 11 := by
  rcases h with h | ⟨h, rfl⟩
  · have h1 := fileFor_facts h
    exact ⟨by unfold needsOf; rw [h], okFil_body h1.2.1, vpk_len (okFil_pack h1.2.1)⟩
  · exact ⟨by unfold needsOf; rw [h]; rfl, by decide, by simp [zeroFil]⟩
theorem okStm_len {s : Stm} (h : okStm s = true) : s.module.length ≤ 11 := by
  unfold okStm at h
  split at h
  · simp only [Bool.and_eq_true] at h; exact vn_len h.1.1.1
  split at h
  · simp only [Bool.and_eq_true] at h
    have h1 := h.1.1
    unfold okSrc at h1
    simp only [Bool.and_eq_true] at h1
    exact vpk_len h1.1.2
  split at h
  · simp only [Bool.and_eq_true] at h; exact vn_len h.1.1.1
  split at h
  · simp only [Bool.and_eq_true, List.isEmpty_iff] at h; rw [h.1.1.1]; simp
  split at h
  · simp only [Bool.and_eq_true, List.isEmpty_iff] at h; rw [h.1.1.1]; simp
  split at h
  · simp only [Bool.and_eq_true, List.isEmpty_iff] at h; rw [h.1.1.1]; simp
  · exact absurd h (by simp)
/-- One more of a body's names. -/
theorem bodyNeeds_more {p : Bs} {b : List Stm} {k : Nat} (hk : k < b.length) : bodyNeeds p (b.take (k + 1)) = if needBy p b[k] = [] then bodyNeeds p (b.take k) else addNew (bodyNeeds p (b.take k)) [needBy p b[k]] := by
  rw [addNeed_snoc p b k hk]; unfold addNeed; rfl
set_option maxRecDepth 100000 in
set_option maxHeartbeats 4000000 in
theorem impl_needs (g : Value) (fs : List Fil) (path : List Int) (D : Nat → Prop) (s : Bs) (w : World) (hg : GraphV w D fs path g) (hs : s.length ≤ 8000000) :
    Calls Tryz.prog 124 #[g, .string (mk s)] w (NewStrs 9 (needsOf fs path s) w) := by
  obtain ⟨f, fa, fc, hget, hbody, hff⟩ := hg.look s hs
  obtain ⟨e1, e2, e4⟩ := needsOf_get hff
  have E1 := Lib.hid e1
  have E2 := Lib.hid e2
  have e3 := okBody_len e2
  have Hbody := Lib.hid hbody
  clear hg hff e1 e2 hbody
  obtain ⟨fr, fp, fn, fi, fst, fb⟩ := f
  dsimp only at E1 E2 e3 e4 Hbody hget
  simp only [filAgg] at hget
  go_enter Tryz.func124, Tryz.ntmps124
  go_wp2_with fail
  obtain ⟨W0, hW0⟩ : ∃ W, W = w.alloc (.cells #[.int .i64 fr, .string (mk fp), .string (mk fn), .bool fi, .int .i64 fst, .slice fa fb.length fc] 79) := ⟨_, rfl⟩
  rw [← hW0]
  have HX0 := Lib.hid (show HB W0 w.heap.size 79 #[.int .i64 fr, .string (mk fp), .string (mk fn), .bool fi, .int .i64 fst, .slice fa fb.length fc] by rw [hW0]; exact HB.new _ _ _)
  have Hb0 := Lib.hid (show Below w.heap.size w W0 by rw [hW0]; exact ba (Below.refl _ _) _)
  have hs0 : W0.heap.size = w.heap.size + 1 := by rw [hW0]; simp
  clear hW0 hget
  go_loopw [5, 16] (fun nv kv wr => ∃ (k : Nat), k ≤ fb.length ∧ kv = .int .i64 k ∧ wr.ownsRow (w.heap.size + 1) 9 1 nv (bodyNeeds fp (fb.take k)).length ((bodyNeeds fp (fb.take k)).map sv) ∧ HB wr w.heap.size 79 #[.int .i64 fr, .string (mk fp), .string (mk fn), .bool fi, .int .i64 fst, .slice fa fb.length fc] ∧ Below w.heap.size w wr ∧ w.heap.size + 1 ≤ wr.heap.size) (fun _ kv _ => fb.length - (intOf kv).toNat)
  case atStart => exact ⟨0, by omega, rfl, by simp [bodyNeeds_nil]; exact World.ownsRow_nil _ _ _ _, HX0.out, Hb0.out, by omega⟩
  case round =>
    obtain ⟨k, hk, rfl, hown, hbx, hbel, hsz⟩ := hrel
    obtain ⟨na, nc, rfl⟩ := owns_shape hown
    have Hown := Lib.hid hown
    have Hbx := Lib.hid hbx
    have Hbel := Lib.hid hbel
    clear hown hbx hbel
    by_cases hlt : k < fb.length
    · have hn8 := (bodyNeeds_part (p := fp) E2.out k).2
      obtain ⟨b, off, cap, e, hD, hb, c0, c1, c2, c3, c4⟩ := Hbody.out.at_ hlt
      simp only [Value.slice.injEq] at e
      obtain ⟨rfl, hnn, rfl⟩ := e
      clear hnn
      have hos := okBody_at E2.out (List.getElem_mem hlt)
      have hml := okStm_len hos
      have d0 := (Hbel.out.cell (p := ⟨b, off + k * 5, none⟩) hb).trans c0
      have d1 := (Hbel.out.cell (p := ⟨b, off + k * 5 + 1, none⟩) hb).trans c1
      have d2 := (Hbel.out.cell (p := ⟨b, off + k * 5 + 2, none⟩) hb).trans c2
      have d3 := (Hbel.out.cell (p := ⟨b, off + k * 5 + 3, none⟩) hb).trans c3
      have d4 := (Hbel.out.cell (p := ⟨b, off + k * 5 + 4, none⟩) hb).trans c4
      clear c0 c1 c2 c3 c4
      have Hm := Lib.hid (bodyNeeds_more (p := fp) hlt)
      obtain ⟨st, hst⟩ : ∃ st, st = fb[k] := ⟨_, rfl⟩
      rw [← hst] at d0 d1 d2 d3 d4 Hm hml
      clear hst hos
      obtain ⟨sk, sm, sl, sn, sx⟩ := st
      dsimp only at d0 d1 d2 d3 d4 hml
      have x1 := Hbx.out.cell 1
      have hbxl := Hbx.out.lt
      generalize bodyNeeds fp (fb.take k) = ns at *
      by_cases hem : needBy fp ⟨sk, sm, sl, sn, sx⟩ = []
      · have Hem := Lib.hid hem
        have Hm2 := Lib.hid (show bodyNeeds fp (fb.take (k + 1)) = ns by rw [Hm.out, if_pos hem])
        clear hem
        go_wp2_with (go_at_call 161; refine (impl_neededBy sk sl sx sm sn fp _ (by omega) (by omega)).mono ?_; rintro _ w7 ⟨rfl, hb7⟩; rw [Hem.out]; have Hb7 := Lib.hid (show Below wr.heap.size wr w7 by (repeat (with_reducible first | exact Below.refl _ _ | assumption | refine ba ?_ _ | refine bd ?_ | refine bdN ?_ _ | refine bs ?_ (by first | exact Nat.le_refl _ | (dsimp only; omega) | (simp; done)) _ | refine bt ?_ (by assumption)))); clear hb7)
        go_roundw
        case rel => exact ⟨k + 1, by omega, by go_num, by rw [Hm2.out]; exact owns_below Hown.out Hb7.out, Hbx.out.step Hb7.out, Hbel.out.trans (Hb7.out.mono Hbel.out.size), by have := Hb7.out.size; omega⟩
        case measure => simp [intOf]; omega
      · have Hm2 := Lib.hid (show bodyNeeds fp (fb.take (k + 1)) = addNew ns [needBy fp ⟨sk, sm, sl, sn, sx⟩] by rw [Hm.out, if_neg hem])
        have hie : List.isEmpty (needBy fp ⟨sk, sm, sl, sn, sx⟩) = false := by simp [List.isEmpty_iff, hem]
        obtain ⟨nb, hnb⟩ : ∃ nb, nb = needBy fp ⟨sk, sm, sl, sn, sx⟩ := ⟨_, rfl⟩
        have Hnb := Lib.hid hnb
        rw [← hnb] at Hm2 hie
        clear hem hnb Hm
        go_wp2_with (go_at_call 161; refine (impl_neededBy sk sl sx sm sn fp _ (by omega) (by omega)).mono ?_; rintro _ w7 ⟨rfl, hb7⟩; rw [← Hnb.out]; have Hb7 := Lib.hid (show Below wr.heap.size wr w7 by (repeat (with_reducible first | exact Below.refl _ _ | assumption | refine ba ?_ _ | refine bd ?_ | refine bdN ?_ _ | refine bs ?_ (by first | exact Nat.le_refl _ | (dsimp only; omega) | (simp; done)) _ | refine bt ?_ (by assumption)))); clear hb7)
        have Hown7 := Lib.hid (owns_below Hown.out Hb7.out)
        have hs7 := Hb7.out.size
        have Hap := Lib.hid (show ∀ x, (Value.slice (some ⟨w7.heap.size, 0, none⟩) 1 1).ownBlock = some x → (Value.slice na ns.length nc).ownBlock ≠ some x from fun x hx e => by
          have h1 := (owns_block Hown7.out e).2
          simp only [Value.ownBlock, Option.some.injEq] at hx
          omega)
        go_wp2_with (go_at_call 136; refine (impl_withNew (w.heap.size + 1) w7.heap.size _ _ ns [nb] _ (Hown7.out.alloc _) (by simp; omega) (World.ownsRow_lit (size := 1) w7 #[.string (mk nb)] 1 (Nat.le_refl _) (by unfold maxLen; omega) rfl) Hap.out (by simp; omega)).mono ?_; rintro _ w8 ⟨v8, rfl, hown8, hg8, _⟩; have Hown8 := Lib.hid hown8; have Hg8 := Lib.hid hg8; clear hown8 hg8)
        have Hg78 := Lib.hid (gb_step (World.grownBy_alloc w7 _ (Value.slice na ns.length nc).ownBlock) Hg8.out (fun x hx => .inl hx))
        go_roundw
        case rel => exact ⟨k + 1, by omega, by go_num, by rw [Hm2.out]; exact Hown8.out, (Hbx.out.step Hb7.out).grown Hg78.out (fun e => by have := (Hown7.out.lt _ e).1; omega), (Hbel.out.trans (Hb7.out.mono Hbel.out.size)).grown Hg78.out (Hbel.out.trans (Hb7.out.mono Hbel.out.size)).size (fun x hx => by have := (Hown7.out.lt _ hx).1; omega), by have := Hg78.out.size; omega⟩
        case measure => simp [intOf]; omega
    · obtain rfl : k = fb.length := by omega
      rw [List.take_length] at Hown ⊢
      go_wp2_with fail
      go_ret
      refine ⟨_, rfl, ?_, Hbel.out⟩
      rw [E1.out]
      exact owns_mono Hown.out (Nat.le_succ _)
set_option maxRecDepth 100000 in
set_option maxHeartbeats 4000000 in
theorem impl_edges (g : Value) (fs : List Fil) (path : List Int) (D : Nat → Prop) (s : Bs) (w : World) (hg : GraphV w D fs path g) (hs : s.length ≤ 8000000) :
    Calls Tryz.prog 87 #[g, .string (mk s)] w (NewStrs 9 (edgesOf fs path s) w) := by
  have Hg := Lib.hid hg
  obtain ⟨hvn, hnd, hlen⟩ := needsOf_ok fs path s
  have Hvn := Lib.hid hvn
  have He := Lib.hid (show edgesOf fs path s = full (needsOf fs path s) from rfl)
  clear hg hvn hnd
  go_enter Tryz.func87, Tryz.ntmps87
  go_wp2_with (go_at_call 124; refine (impl_needs g fs path D s _ Hg.out hs).mono ?_; rintro _ w1 ⟨v1, rfl, hown1, hb1⟩; obtain ⟨a1, c1, rfl⟩ := owns_shape hown1; have Hown1 := Lib.hid hown1; have Hb1 := Lib.hid (show Below w.heap.size w w1 by (repeat (with_reducible first | exact Below.refl _ _ | assumption | refine ba ?_ _ | refine bd ?_ | refine bdN ?_ _ | refine bs ?_ (by first | exact Nat.le_refl _ | (dsimp only; omega) | (simp; done)) _ | refine bt ?_ (by assumption)))); clear hown1 hb1)
  generalize needsOf fs path s = ns at *
  go_loopw [5, 12] (fun nv kv wr => ∃ (k : Nat), k ≤ ns.length ∧ kv = .int .i64 k ∧ wr.ownsRow w1.heap.size 9 1 nv (full (ns.take k)).length ((full (ns.take k)).map sv) ∧ Below w1.heap.size w1 wr) (fun _ kv _ => ns.length - (intOf kv).toNat)
  case atStart => exact ⟨0, by omega, rfl, World.ownsRow_nil _ _ _ _, Below.refl _ _⟩
  case round =>
    obtain ⟨k, hk, rfl, hown, hbel⟩ := hrel
    obtain ⟨na, nc, rfl⟩ := owns_shape hown
    have Hown := Lib.hid hown
    have Hbel := Lib.hid hbel
    have hsz := hbel.size
    clear hown hbel
    by_cases hlt : k < ns.length
    · have hl24 := (full_ok (ns.take k)).2.2
      rw [List.length_take] at hl24
      obtain ⟨b, off, cap, e, _, _, hbl, hc⟩ := Reads.some (Reads.below (Reads.of_owns Hown1.out) Hbel.out) (by omega)
      simp only [Value.slice.injEq] at e
      obtain ⟨rfl, hnn, rfl⟩ := e
      have c0 := hc k hlt
      have hml : ns[k].length ≤ 8000000 := Nat.le_trans (vn_len (Hvn.out _ (List.getElem_mem hlt))) (by omega)
      have h3 := namesAbove_le3 ns[k]
      have Hm := Lib.hid (full_snoc ns k hlt)
      clear hnn hc
      generalize ns[k] = n at *
      generalize full (ns.take k) = xs at *
      go_wp2_with (go_at_call 44; refine (impl_NamesAbove n _ hml).mono ?_; rintro _ w2 ⟨v2, rfl, hown2, hb2⟩; obtain ⟨a2, c2, rfl⟩ := owns_shape hown2; have Hown2 := Lib.hid hown2; have Hb2 := Lib.hid (show Below wr.heap.size wr w2 by (repeat (with_reducible first | exact Below.refl _ _ | assumption | refine ba ?_ _ | refine bd ?_ | refine bdN ?_ _ | refine bs ?_ (by first | exact Nat.le_refl _ | (dsimp only; omega) | (simp; done)) _ | refine bt ?_ (by assumption)))); clear hown2 hb2)
      generalize namesAbove n = ys at *
      have Hown2' := Lib.hid (owns_below Hown.out Hb2.out)
      have hs2 := Hb2.out.size
      have Hap := Lib.hid (show ∀ x, (Value.slice a2 ys.length c2).ownBlock = some x → (Value.slice na xs.length nc).ownBlock ≠ some x from fun x hx e => by
        have h1 := (owns_block Hown.out e).2
        have h2 := (owns_block Hown2.out hx).1
        omega)
      go_wp2_with (go_at_call 136; refine (impl_withNew w1.heap.size wr.heap.size _ _ xs ys _ Hown2'.out (by omega) Hown2.out Hap.out (by omega)).mono ?_; rintro _ w8 ⟨v8, rfl, hown8, hg8, _⟩; have Hown8 := Lib.hid hown8; have Hg8 := Lib.hid hg8; clear hown8 hg8)
      go_roundw
      case rel => exact ⟨k + 1, by omega, by go_num, by rw [Hm.out]; exact Hown8.out, (Hbel.out.trans (Hb2.out.mono hsz)).grown Hg8.out (by omega) (fun x hx => (Hown2'.out.lt _ hx).1)⟩
      case measure => simp [intOf]; omega
    · obtain rfl : k = ns.length := by omega
      rw [List.take_length] at Hown ⊢
      go_wp2_with fail
      go_ret
      refine ⟨_, rfl, ?_, Hb1.out.trans (Hbel.out.mono Hb1.out.size)⟩
      rw [He.out]
      exact owns_mono Hown.out Hb1.out.size
/-! ### The two that are asked. -/
set_option maxRecDepth 100000 in
set_option maxHeartbeats 4000000 in
theorem impl_EdgesOf (v : Value) (fs : List Fil) (D : Nat → Prop) (pv : Value) (path : List Int) (s : Bs) (w : World) (hr : FilsIn w D v fs) (hz : ShortT 2000000 fs) (hp : IntsIn w pv path) (hsl : s.length ≤ 8000000) :
    Calls Tryz.prog 43 #[.agg #[v], pv, .string (mk s)] w (NewStrs 9 (edgesOf fs path s) w) := by
  have Hr := Lib.hid hr
  have Hz := Lib.hid hz
  have Hp := Lib.hid hp
  obtain ⟨aa, ca, rfl, hl0, hm0⟩ := hr.len
  clear hr hz hp hl0 hm0
  go_enter Tryz.func43, Tryz.ntmps43
  go_wp2_with (first
    | (go_at_call 86; refine (impl_graphOf _ fs D _ path _ (Hr.out.below (by (repeat (with_reducible first | exact Below.refl _ _ | assumption | refine ba ?_ _ | refine bd ?_ | refine bdN ?_ _ | refine bs ?_ (by first | exact Nat.le_refl _ | (dsimp only; omega) | (simp; done)) _ | refine bt ?_ (by assumption))))) Hz.out (Hp.out.below (by (repeat (with_reducible first | exact Below.refl _ _ | assumption | refine ba ?_ _ | refine bd ?_ | refine bdN ?_ _ | refine bs ?_ (by first | exact Nat.le_refl _ | (dsimp only; omega) | (simp; done)) _ | refine bt ?_ (by assumption)))))).mono ?_; rintro _ w8 ⟨g8, rfl, hg8, hb8⟩; have Hg8 := Lib.hid hg8; have Hb8 := Lib.hid (show Below w.heap.size w w8 by (repeat (with_reducible first | exact Below.refl _ _ | assumption | refine ba ?_ _ | refine bd ?_ | refine bdN ?_ _ | refine bs ?_ (by first | exact Nat.le_refl _ | (dsimp only; omega) | (simp; done)) _ | refine bt ?_ (by assumption)))); clear hg8 hb8)
    | (go_at_call 87; refine (impl_edges _ fs path _ s _ Hg8.out hsl).mono ?_; rintro _ w9 ⟨v9, rfl, hown9, hb9⟩; have Hown9 := Lib.hid hown9; have Hb9 := Lib.hid (Hb8.out.trans (hb9.mono Hb8.out.size)); clear hown9 hb9))
  go_ret
  exact ⟨_, rfl, owns_mono Hown9.out Hb8.out.size, Hb9.out⟩
end Go.Proofs.YtcmnldomcpjlcaaGreat
