/- Contracts of the functions that list the modules and the packages of a tree. -/
import Derived.Test.YtoleklppgmeflaaSorts
import Derived.Test.YtoleklppgmeflaaDirs2
import Derived.Test.YtoleklppgmeflaaKin
import Derived.Test.YtoleklppgmeflaaPlainG
import Derived.Test.YtoleklppgmeflaaBoth
import Derived.Test.YtoleklppgmeflaaMarks2
set_option linter.unusedVariables false
set_option linter.unusedSimpArgs false
namespace Go.Proofs.Ytoleklppgmeflaa
open Go.RowKit Go.Proofs.Ytoleklppgmeflaa.Nm

theorem map_take_snoc {α : Type} (f : α → Bs) (xs : List α) (k : Nat) (h : k < xs.length) : (xs.take (k + 1)).map f = (xs.take k).map f ++ [f xs[k]] := by
  rw [List.take_succ_eq_append_getElem h, List.map_append]; rfl
theorem modulesOf_at {fs : List Fil} (h : okTree fs = true) : sortUp (fs.map modAt) = modulesOf fs := by
  have e : fs.map modAt = fs.map modName := List.map_congr_left (fun f hf => (okFil_mod (List.all_eq_true.1 (okTree_all h).1 f hf)).1)
  rw [modulesOf, if_pos h, e]
theorem modulesOf_no {fs : List Fil} (h : okTree fs = false) : modulesOf fs = [] := by rw [modulesOf, h]; rfl
theorem newStrs_no {T : TypeId} {xs : List Bs} {w w' : World} (h : xs = []) (hb : Below w.heap.size w w') : NewStrs T xs w (.returned (.slice none 0 0)) w' := by
  subst h; exact ⟨_, rfl, World.ownsRow_nil _ _ _ _, hb⟩
theorem own_all {α : Type} {f : α → Bs} {w : World} {N : Nat} {T : TypeId} {v : Value} {fs : List α} (h : w.ownsRow N T 1 v fs.length (((fs.take fs.length).map f).map sv)) : w.ownsRow N T 1 v (fs.map f).length ((fs.map f).map sv) := by
  rw [List.take_length] at h; rw [List.length_map]; exact h
theorem le_size {wr W : World} {B : Nat} (hb : Below wr.heap.size wr W) (h : B < wr.heap.size) : B + 1 ≤ W.heap.size := Nat.le_trans h hb.size
theorem boxed_low {w wr w' : World} {cs : Array Value} {T : TypeId} (h : Boxed w cs T wr) (hb : Below (w.heap.size + 1) wr w') : Boxed w cs T w' := by
  have e : (w.alloc (.cells cs T)).heap.size = w.heap.size + 1 := by simp
  unfold Boxed at *
  exact h.trans (by rw [e]; exact hb)

set_option maxRecDepth 100000 in
set_option maxHeartbeats 1000000 in
theorem impl_ModulesOf (v : Value) (fs : List Fil) (D : Nat → Prop) (w : World) (hr : FilsIn w D v fs) (hz : ShortT 2000000 fs) :
    Calls Try.prog 25 #[.agg #[v]] w (NewStrs 9 (modulesOf fs) w) := by
  obtain ⟨i0, hi, hz0, hz1, hz2⟩ := info_parts infoS
  have Hi := Lib.hid hi
  have Hz0 := Lib.hid hz0
  have Hz1 := Lib.hid hz1
  have Hz2 := Lib.hid hz2
  have Hr := Lib.hid hr
  obtain ⟨aa, ca, rfl, hl, hm⟩ := hr.len
  unfold maxLen at hm
  have Hz := Lib.hid hz
  have Hz8 := Lib.hid (short2 (B := 8000000) (by omega) hz)
  clear hr hz hi hz0 hz1 hz2
  cases hok : okTree fs
  · have Hok := Lib.hid hok
    have Hno := Lib.hid (modulesOf_no hok)
    clear hok
    go_enter Try.func25, Try.ntmps25
    go_wp2_with (go_at_call 16; refine (impl_ValidTree _ fs D _ (Hr.out.below (by (repeat (with_reducible first | exact Below.refl _ _ | assumption | refine ba ?_ _ | refine bd ?_ | refine bdN ?_ _ | refine bs ?_ (by first | exact Nat.le_refl _ | (dsimp only; omega) | (simp; done)) _ | refine bt ?_ (by assumption))))) Hz8.out).mono ?_; (rintro _ _ ⟨rfl, hb⟩; obtain ⟨hc, hf, hs⟩ := bcell hb); rw [Hok.out])
    go_ret
    exact newStrs_no Hno.out (by (repeat (with_reducible first | exact Below.refl _ _ | assumption | refine ba ?_ _ | refine bd ?_ | refine bdN ?_ _ | refine bs ?_ (by first | exact Nat.le_refl _ | (dsimp only; omega) | (simp; done)) _ | refine bt ?_ (by assumption))))
  · have Hok := Lib.hid hok
    have h12 := (okTree_all hok).2.2
    have Hyes := Lib.hid (modulesOf_at hok)
    clear hok
    go_enter Try.func25, Try.ntmps25
    go_wp2_with (go_at_call 16; refine (impl_ValidTree _ fs D _ (Hr.out.below (by (repeat (with_reducible first | exact Below.refl _ _ | assumption | refine ba ?_ _ | refine bd ?_ | refine bdN ?_ _ | refine bs ?_ (by first | exact Nat.le_refl _ | (dsimp only; omega) | (simp; done)) _ | refine bt ?_ (by assumption))))) Hz8.out).mono ?_; rintro _ wj ⟨rfl, hb⟩; have Hx := Lib.hid ((Boxed.start w #[.slice aa fs.length ca] 25).step hb); have hA : wj.cell? ⟨w.heap.size, 0, none⟩ = some (.slice aa fs.length ca) := Hx.out.cell 0; rw [Hok.out])
    clear hb hA
    go_loopw [3, 12] (fun nv iv wr => ∃ k : Nat, k ≤ fs.length ∧ iv = .int .i64 k ∧ wr.ownsRow (w.heap.size + 1) 9 1 nv k (((fs.take k).map modAt).map sv) ∧ Boxed w #[.slice aa fs.length ca] 25 wr) (fun _ iv _ => fs.length - (intOf iv).toNat)
    case atStart => exact ⟨0, by omega, rfl, World.ownsRow_nil _ _ _ _, Hx.out⟩
    case round =>
      obtain ⟨k, hk, rfl, hown, hbx⟩ := hrel
      have hbel := hbx.below
      have hsz := hbx.lt
      have Hown := Lib.hid hown
      have Hbx := Lib.hid hbx
      clear hown hbx Hx
      by_cases hlt : k < fs.length
      · obtain ⟨b, off, cap, bv, e, hD, hb, hbody, c0, c1, c2, c3, c4, c5⟩ := (Hr.out.below hbel).at_ hlt
        simp only [Value.slice.injEq] at e
        obtain ⟨rfl, _, rfl⟩ := e
        obtain ⟨ba', bc', rfl, hbl, hbm⟩ := hbody.len
        obtain ⟨z1, z2, z3⟩ := Hz.out _ (List.getElem_mem hlt)
        have Hs := Lib.hid (map_take_snoc modAt fs k hlt)
        obtain ⟨f, hf⟩ : ∃ f, f = fs[k] := ⟨_, rfl⟩
        rw [← hf] at c0 c1 c2 c3 c4 c5 z1 z2 Hs
        clear hf hbody hbm hbl z3
        obtain ⟨fr, fp, fn, fi, fst, fb⟩ := f
        dsimp only at c0 c1 c2 c3 c4 c5 z1 z2
        obtain ⟨mn, hmn⟩ : ∃ mn, mn = modAt ⟨fr, fp, fn, fi, fst, fb⟩ := ⟨_, rfl⟩
        rw [← hmn] at Hs
        have Hmn := Lib.hid hmn
        clear hmn
        go_wp2_with (first
          | (go_at_call 76; refine (impl_moduleAt _ _ _ _ _ _ fb _ (by omega) (by omega)).mono ?_; (rintro _ _ ⟨rfl, hb⟩; obtain ⟨hc, hf, hs⟩ := bcell hb); rw [← Hmn.out])
          | (at_builtin; refine wpList_append_own _ rfl _ _ 40 rfl (w.heap.size + 1) 9 i0 (.string ByteArray.empty) 1 16 Try.underlying40 Hi.out Hz0.out Hz1.out Hz2.out rfl (by decide) _ k _ rfl ((owns_below Hown.out (by (repeat (with_reducible first | exact Below.refl _ _ | assumption | refine ba ?_ _ | refine bd ?_ | refine bdN ?_ _ | refine bs ?_ (by first | exact Nat.le_refl _ | (dsimp only; omega) | (simp; done)) _ | refine bt ?_ (by assumption))))).alloc _) ⟨_, 0, none⟩ 1 1 [.string (mk mn)] rfl rfl (one_new (by first | rfl | simp)) (fun x hx => by simp at hx; subst hx; rfl) (by unfold maxLen; omega) (by omega) (base_le (by (repeat (with_reducible first | exact Below.refl _ _ | assumption | refine ba ?_ _ | refine bd ?_ | refine bdN ?_ _ | refine bs ?_ (by first | exact Nat.le_refl _ | (dsimp only; omega) | (simp; done)) _ | refine bt ?_ (by assumption)))) hsz) ?_; intro v7 w7 hown7 hgrow7 hnil7))
        have Hx7 := Lib.hid (below_first Hbx.out (by (repeat (with_reducible first | exact Below.refl _ _ | assumption | refine ba ?_ _ | refine bd ?_ | refine bdN ?_ _ | refine bs ?_ (by first | exact Nat.le_refl _ | (dsimp only; omega) | (simp; done)) _ | refine bt ?_ (by assumption)))) hgrow7 (fun g hg => (Hown.out.lt g hg).1))
        have Hown7 := Lib.hid (show w7.ownsRow (w.heap.size + 1) 9 1 v7 (k + 1) (((fs.take (k + 1)).map modAt).map sv) by rw [Hs.out, ← map_snoc]; exact hown7)
        clear hown7 hgrow7 hnil7
        go_roundw
        case rel => exact ⟨k + 1, by omega, by go_num, Hown7.out, Hx7.out⟩
        case measure => simp [intOf]; omega
      · obtain rfl : k = fs.length := by omega
        have Hasc := Lib.hid (impl_ascending (w.heap.size + 1) _ (fs.map modAt) wr (own_all Hown.out) (by omega) (by simp; omega))
        go_wp2_with (go_at_call 77; refine Hasc.out.mono ?_; rintro _ w9 ⟨v9, rfl, hown9, hb9⟩)
        go_ret
        refine ⟨_, rfl, ?_, hbel.trans (hb9.mono (by omega))⟩
        rw [← Hyes.out]
        exact owns_mono hown9 (by omega)

set_option maxRecDepth 100000 in
set_option maxHeartbeats 1000000 in
theorem spec_ModulesOf (v : Value) (fs : List Fil) (D : Nat → Prop) (w : World) (hr : FilsIn w D v fs) (hz : ShortT 2000000 fs) :
    Calls Try.prog 40 #[.agg #[v]] w (NewStrs 9 (modulesOf fs) w) := by
  have Hr := Lib.hid hr
  obtain ⟨aa, ca, rfl, hl, hm⟩ := hr.len
  unfold maxLen at hm
  have Hz := Lib.hid hz
  have Hz3 := Lib.hid (short2 (B := 3000000) (by omega) hz)
  clear hr hz
  cases hok : okTree fs
  · have Hok := Lib.hid hok
    have Hno := Lib.hid (modulesOf_no hok)
    clear hok
    go_enter Try.func40, Try.ntmps40
    go_wp2_with (go_at_call 65; refine (spec_validTree _ fs D _ (Hr.out.below (by (repeat (with_reducible first | exact Below.refl _ _ | assumption | refine ba ?_ _ | refine bd ?_ | refine bdN ?_ _ | refine bs ?_ (by first | exact Nat.le_refl _ | (dsimp only; omega) | (simp; done)) _ | refine bt ?_ (by assumption))))) Hz3.out).mono ?_; (rintro _ _ ⟨rfl, hb⟩; obtain ⟨hc, hf, hs⟩ := bcell hb); rw [Hok.out])
    go_ret
    exact newStrs_no Hno.out (by (repeat (with_reducible first | exact Below.refl _ _ | assumption | refine ba ?_ _ | refine bd ?_ | refine bdN ?_ _ | refine bs ?_ (by first | exact Nat.le_refl _ | (dsimp only; omega) | (simp; done)) _ | refine bt ?_ (by assumption))))
  · have Hok := Lib.hid hok
    have h12 := (okTree_all hok).2.2
    have Hyes := Lib.hid (show sortUp (fs.map modName) = modulesOf fs by rw [modulesOf, if_pos hok])
    clear hok
    go_enter Try.func40, Try.ntmps40
    go_wp2_with (go_at_call 65; refine (spec_validTree _ fs D _ (Hr.out.below (by (repeat (with_reducible first | exact Below.refl _ _ | assumption | refine ba ?_ _ | refine bd ?_ | refine bdN ?_ _ | refine bs ?_ (by first | exact Nat.le_refl _ | (dsimp only; omega) | (simp; done)) _ | refine bt ?_ (by assumption))))) Hz3.out).mono ?_; rintro _ wj ⟨rfl, hb⟩; have Hx := Lib.hid ((Boxed.start w #[.slice aa fs.length ca] 25).step hb); have hA : wj.cell? ⟨w.heap.size, 0, none⟩ = some (.slice aa fs.length ca) := Hx.out.cell 0; rw [Hok.out])
    have Hown0 := Lib.hid (World.ownsRow_made (base := w.heap.size + 1) (size := 1) (e := 9) wj #[] 0 (by have := Hx.out.lt; omega) (by unfold maxLen; omega) rfl)
    have Hx0 := Lib.hid (Hx.out.step (ba (Below.refl _ _) (.cells #[] 9)))
    clear hb hA
    go_loopw [3, 4] (fun nv iv wr => ∃ (k g cap : Nat), k ≤ fs.length ∧ iv = .int .i64 k ∧ nv = .slice (some ⟨g, 0, none⟩) (sortUp ((fs.take k).map modName)).length cap ∧ wr.ownsRow (w.heap.size + 1) 9 1 (.slice (some ⟨g, 0, none⟩) (sortUp ((fs.take k).map modName)).length cap) (sortUp ((fs.take k).map modName)).length ((sortUp ((fs.take k).map modName)).map sv) ∧ Boxed w #[.slice aa fs.length ca] 25 wr) (fun _ iv _ => fs.length - (intOf iv).toNat)
    case atStart => exact ⟨0, _, 0, by omega, rfl, rfl, Hown0.out, Hx0.out⟩
    case round =>
      obtain ⟨k, g, cap, hk, rfl, rfl, hown, hbx⟩ := hrel
      have hbel := hbx.below
      have hsz := hbx.lt
      have hA : wr.cell? ⟨w.heap.size, 0, none⟩ = some (.slice aa fs.length ca) := hbx.cell 0
      have Hown := Lib.hid hown
      have Hbx := Lib.hid hbx
      have Hup := Lib.hid (sortUp_up ((fs.take k).map modName))
      have hln : (sortUp ((fs.take k).map modName)).length ≤ 12 := Nat.le_trans (sortUp_len _) (by simp; omega)
      clear hown hbx Hx Hx0 Hown0
      by_cases hlt : k < fs.length
      · obtain ⟨b, off, cap', bv, e, hD, hb, hbody, c0, c1, c2, c3, c4, c5⟩ := (Hr.out.below hbel).at_ hlt
        simp only [Value.slice.injEq] at e
        obtain ⟨rfl, _, rfl⟩ := e
        obtain ⟨ba', bc', rfl, hbl, hbm⟩ := hbody.len
        obtain ⟨z1, z2, z3⟩ := Hz.out _ (List.getElem_mem hlt)
        have Hs := Lib.hid (show sortUp ((fs.take (k + 1)).map modName) = insTo (sortUp ((fs.take k).map modName)) (modName fs[k]) by rw [map_take_snoc modName fs k hlt, sortUp_snoc])
        obtain ⟨f, hf⟩ : ∃ f, f = fs[k] := ⟨_, rfl⟩
        rw [← hf] at c0 c1 c2 c3 c4 c5 z1 z2 Hs
        clear hf hbody hbm hbl z3
        obtain ⟨fr, fp, fn, fi, fst, fb⟩ := f
        dsimp only at c0 c1 c2 c3 c4 c5 z1 z2
        obtain ⟨mn, hmn⟩ : ∃ mn, mn = modName ⟨fr, fp, fn, fi, fst, fb⟩ := ⟨_, rfl⟩
        rw [← hmn] at Hs
        have Hmn := Lib.hid hmn
        clear hmn
        generalize sortUp ((fs.take k).map modName) = L at *
        go_wp2_with (first
          | (go_at_call 92; refine (spec_moduleName _ _ _ _ _ _ fb _ (by omega) (by omega)).mono ?_; (rintro _ _ ⟨rfl, hb⟩; obtain ⟨hc, hf, hs⟩ := bcell hb); rw [← Hmn.out])
          | (go_at_call 91; refine (spec_insertText (w.heap.size + 1) g cap L mn _ (owns_below Hown.out (by (repeat (with_reducible first | exact Below.refl _ _ | assumption | refine ba ?_ _ | refine bd ?_ | refine bdN ?_ _ | refine bs ?_ (by first | exact Nat.le_refl _ | (dsimp only; omega) | (simp; done)) _ | refine bt ?_ (by assumption))))) Hup.out (le_size (by (repeat (with_reducible first | exact Below.refl _ _ | assumption | refine ba ?_ _ | refine bd ?_ | refine bdN ?_ _ | refine bs ?_ (by first | exact Nat.le_refl _ | (dsimp only; omega) | (simp; done)) _ | refine bt ?_ (by assumption)))) hsz) (by omega)).mono ?_; rintro _ w7 ⟨g7, c7, rfl, hown7, hb7, _, _⟩))
        have Hx7 := Lib.hid (boxed_low (Hbx.out.step (by (repeat (with_reducible first | exact Below.refl _ _ | assumption | refine ba ?_ _ | refine bd ?_ | refine bdN ?_ _ | refine bs ?_ (by first | exact Nat.le_refl _ | (dsimp only; omega) | (simp; done)) _ | refine bt ?_ (by assumption))))) hb7)
        have Hown7 := Lib.hid hown7
        clear hown7 hb7
        go_roundw
        case rel => exact ⟨k + 1, g7, c7, by omega, by go_num, by rw [Hs.out], by rw [Hs.out]; exact Hown7.out, Hx7.out⟩
        case measure => simp [intOf]; omega
      · obtain rfl : k = fs.length := by omega
        have Hf := Lib.hid (show sortUp ((fs.take fs.length).map modName) = modulesOf fs by rw [List.take_length]; exact Hyes.out)
        go_wp2_with fail
        go_ret
        refine ⟨_, rfl, ?_, hbel⟩
        rw [← Hf.out]
        exact owns_mono Hown.out (by omega)

/-! ### Contracts of the functions that list the packages of a tree. -/
def pkOf (fs : List Fil) : List Bs := fs.flatMap (fun f => namesAbove f.pack)
theorem pkOf_len : ∀ (fs : List Fil), (pkOf fs).length ≤ 3 * fs.length
  | [] => by simp [pkOf]
  | f :: r => by
    have h1 := pkOf_len r
    have h2 := namesAbove_le3 f.pack
    have e : pkOf (f :: r) = namesAbove f.pack ++ pkOf r := by simp [pkOf]
    rw [e, List.length_append, List.length_cons]
    omega
theorem pkOf_snoc (fs : List Fil) (k : Nat) (h : k < fs.length) : pkOf (fs.take (k + 1)) = pkOf (fs.take k) ++ namesAbove fs[k].pack := by
  simp only [pkOf, List.take_succ_eq_append_getElem h, List.flatMap_append, List.flatMap_cons, List.flatMap_nil, List.append_nil]
theorem flatMap_same {f g : Fil → List Bs} : ∀ (fs : List Fil), (∀ x ∈ fs, f x = g x) → fs.flatMap f = fs.flatMap g
  | [], _ => rfl
  | x :: r, h => by rw [List.flatMap_cons, List.flatMap_cons, h x (List.mem_cons_self ..), flatMap_same r (fun y hy => h y (List.mem_cons_of_mem _ hy))]
theorem above_if {p : Bs} (h : vpk p = true) : (if p.isEmpty then [] else above p) = namesAbove p := by
  rcases vpk_iff.1 h with rfl | hv
  · simp [namesAbove, vn_nil]
  · have : p.isEmpty = false := by
      cases p with
      | nil => rw [vn_nil] at hv; cases hv
      | cons a b => rfl
    rw [this, namesAbove, hv]; rfl
theorem packs_eq {fs : List Fil} (h : fs.all okFil = true) : packs fs = pkOf fs :=
  flatMap_same fs (fun f hf => above_if (okFil_pack (List.all_eq_true.1 h f hf)))
theorem packagesOf_at {fs : List Fil} (h : okTree fs = true) : sortUp (pkOf fs) = packagesOf fs := by rw [packagesOf, if_pos h, packs_eq (okTree_all h).1]
theorem packagesOf_no {fs : List Fil} (h : okTree fs = false) : packagesOf fs = [] := by rw [packagesOf, h]; rfl

set_option maxRecDepth 100000 in
set_option maxHeartbeats 2000000 in
theorem impl_PackagesOf (v : Value) (fs : List Fil) (D : Nat → Prop) (w : World) (hr : FilsIn w D v fs) (hz : ShortT 2000000 fs) :
    Calls Try.prog 42 #[.agg #[v]] w (NewStrs 9 (packagesOf fs) w) := by
  obtain ⟨i0, hi, hz0, hz1, hz2⟩ := info_parts infoS
  have Hi := Lib.hid hi
  have Hz0 := Lib.hid hz0
  have Hz1 := Lib.hid hz1
  have Hz2 := Lib.hid hz2
  have Hr := Lib.hid hr
  obtain ⟨aa, ca, rfl, hl, hm⟩ := hr.len
  unfold maxLen at hm
  have Hz := Lib.hid hz
  have Hz8 := Lib.hid (short2 (B := 8000000) (by omega) hz)
  clear hr hz hi hz0 hz1 hz2
  cases hok : okTree fs
  · have Hok := Lib.hid hok
    have Hno := Lib.hid (packagesOf_no hok)
    clear hok
    go_enter Try.func42, Try.ntmps42
    go_wp2_with (go_at_call 16; refine (impl_ValidTree _ fs D _ (Hr.out.below (by (repeat (with_reducible first | exact Below.refl _ _ | assumption | refine ba ?_ _ | refine bd ?_ | refine bdN ?_ _ | refine bs ?_ (by first | exact Nat.le_refl _ | (dsimp only; omega) | (simp; done)) _ | refine bt ?_ (by assumption))))) Hz8.out).mono ?_; (rintro _ _ ⟨rfl, hb⟩; obtain ⟨hc, hf, hs⟩ := bcell hb); rw [Hok.out])
    go_ret
    exact newStrs_no Hno.out (by (repeat (with_reducible first | exact Below.refl _ _ | assumption | refine ba ?_ _ | refine bd ?_ | refine bdN ?_ _ | refine bs ?_ (by first | exact Nat.le_refl _ | (dsimp only; omega) | (simp; done)) _ | refine bt ?_ (by assumption))))
  · have Hok := Lib.hid hok
    have h12 := (okTree_all hok).2.2
    have Hyes := Lib.hid (packagesOf_at hok)
    clear hok
    go_enter Try.func42, Try.ntmps42
    go_wp2_with (go_at_call 16; refine (impl_ValidTree _ fs D _ (Hr.out.below (by (repeat (with_reducible first | exact Below.refl _ _ | assumption | refine ba ?_ _ | refine bd ?_ | refine bdN ?_ _ | refine bs ?_ (by first | exact Nat.le_refl _ | (dsimp only; omega) | (simp; done)) _ | refine bt ?_ (by assumption))))) Hz8.out).mono ?_; rintro _ wj ⟨rfl, hb⟩; have Hx := Lib.hid ((Boxed.start w #[.slice aa fs.length ca] 25).step hb); have hA : wj.cell? ⟨w.heap.size, 0, none⟩ = some (.slice aa fs.length ca) := Hx.out.cell 0; rw [Hok.out])
    clear hb hA
    go_loopw [3, 12] (fun nv iv wr => ∃ k : Nat, k ≤ fs.length ∧ iv = .int .i64 k ∧ wr.ownsRow (w.heap.size + 1) 9 1 nv (pkOf (fs.take k)).length ((pkOf (fs.take k)).map sv) ∧ Boxed w #[.slice aa fs.length ca] 25 wr) (fun _ iv _ => fs.length - (intOf iv).toNat)
    case atStart => exact ⟨0, by omega, rfl, World.ownsRow_nil _ _ _ _, Hx.out⟩
    case round =>
      obtain ⟨k, hk, rfl, hown, hbx⟩ := hrel
      have hbel := hbx.below
      have hsz := hbx.lt
      have Hown := Lib.hid hown
      have Hbx := Lib.hid hbx
      clear hown hbx Hx
      by_cases hlt : k < fs.length
      · obtain ⟨b, off, cap, bv, e, hD, hb, hbody, c0, c1, c2, c3, c4, c5⟩ := (Hr.out.below hbel).at_ hlt
        simp only [Value.slice.injEq] at e
        obtain ⟨rfl, _, rfl⟩ := e
        obtain ⟨ba', bc', rfl, hbl, hbm⟩ := hbody.len
        obtain ⟨z1, z2, z3⟩ := Hz.out _ (List.getElem_mem hlt)
        have Hs := Lib.hid (pkOf_snoc fs k hlt)
        have hpl : (pkOf (fs.take k)).length ≤ 36 := Nat.le_trans (pkOf_len _) (by simp; omega)
        obtain ⟨f, hf⟩ : ∃ f, f = fs[k] := ⟨_, rfl⟩
        rw [← hf] at c0 c1 c2 c3 c4 c5 z1 z2 Hs
        clear hf hbody hbm hbl z3
        obtain ⟨fr, fp, fn, fi, fst, fb⟩ := f
        dsimp only at c0 c1 c2 c3 c4 c5 z1 z2 Hs
        have hn3 := namesAbove_le3 fp
        obtain ⟨nl, hnl⟩ : ∃ nl, nl = namesAbove fp := ⟨_, rfl⟩
        rw [← hnl] at Hs hn3
        have Hnl := Lib.hid hnl
        clear hnl
        generalize pkOf (fs.take k) = L at *
        go_wp2_with (first
          | (go_at_call 59; refine (impl_NamesAbove fp _ (by omega)).mono ?_; rintro _ w6 ⟨v6, rfl, hown6, hb⟩; rw [← Hnl.out] at hown6; have Hown6 := Lib.hid hown6; have Hb6 := Lib.hid (show Below wr.heap.size wr w6 by (repeat (with_reducible first | exact Below.refl _ _ | assumption | refine ba ?_ _ | refine bd ?_ | refine bdN ?_ _ | refine bs ?_ (by first | exact Nat.le_refl _ | (dsimp only; omega) | (simp; done)) _ | refine bt ?_ (by assumption)))); obtain ⟨hc, hf, hs⟩ := bcell hb; clear hown6)
          | (at_builtin; refine wpList_append_both rfl _ _ 40 rfl (w.heap.size + 1) 9 i0 (.string ByteArray.empty) 1 16 Try.underlying40 Hi.out Hz0.out Hz1.out Hz2.out rfl (by decide) _ L.length _ rfl (owns_below Hown.out Hb6.out) _ v6 nl.length _ rfl Hown6.out (one_sv _) (by unfold maxLen; omega) (by omega) (le_size Hb6.out hsz) ?_; intro v7 w7 hown7 hgrow7))
        have Hx7 := Lib.hid (below_first Hbx.out Hb6.out hgrow7 (fun g hg => (Hown.out.lt g hg).1))
        have Hown7 := Lib.hid (show w7.ownsRow (w.heap.size + 1) 9 1 v7 (L ++ nl).length ((L ++ nl).map sv) by rw [List.length_append, List.map_append]; exact hown7)
        clear hown7 hgrow7
        go_roundw
        case rel => exact ⟨k + 1, by omega, by go_num, by rw [Hs.out]; exact Hown7.out, Hx7.out⟩
        case measure => simp [intOf]; omega
      · obtain rfl : k = fs.length := by omega
        have hpl : (pkOf fs).length ≤ 36 := Nat.le_trans (pkOf_len _) (by omega)
        have Hasc := Lib.hid (impl_ascending (w.heap.size + 1) _ (pkOf fs) wr (by have h := Hown.out; rw [List.take_length] at h; exact h) (by omega) (by omega))
        go_wp2_with (go_at_call 77; refine Hasc.out.mono ?_; rintro _ w9 ⟨v9, rfl, hown9, hb9⟩)
        go_ret
        refine ⟨_, rfl, ?_, hbel.trans (hb9.mono (by omega))⟩
        rw [← Hyes.out]
        exact owns_mono hown9 (by omega)

theorem sortUp_app (xs ys : List Bs) : sortUp (xs ++ ys) = ys.foldl insTo (sortUp xs) := by simp [sortUp, List.foldl_append]
theorem foldIns_step (L ys : List Bs) (j : Nat) (h : j < ys.length) : (ys.take (j + 1)).foldl insTo L = insTo ((ys.take j).foldl insTo L) ys[j] := by
  rw [List.take_succ_eq_append_getElem h, List.foldl_append]; rfl
theorem owns_up {w : World} {N M e g cap n : Nat} {xs : List Value} (h : w.ownsRow N e 1 (.slice (some ⟨g, 0, none⟩) n cap) n xs) (hg : M ≤ g) : w.ownsRow M e 1 (.slice (some ⟨g, 0, none⟩) n cap) n xs := by
  refine ⟨h.1, ?_⟩
  rcases h.2 with ⟨h1, _⟩ | ⟨g', cap', cur, h1, h2, h3⟩
  · cases h1
  · cases h1; exact .inr ⟨g, cap, cur, rfl, hg, h3⟩
set_option maxRecDepth 100000 in
set_option maxHeartbeats 2000000 in
theorem spec_PackagesOf (v : Value) (fs : List Fil) (D : Nat → Prop) (w : World) (hr : FilsIn w D v fs) (hz : ShortT 2000000 fs) :
    Calls Try.prog 43 #[.agg #[v]] w (NewStrs 9 (packagesOf fs) w) := by
  have Hr := Lib.hid hr
  obtain ⟨aa, ca, rfl, hl, hm⟩ := hr.len
  unfold maxLen at hm
  have Hz := Lib.hid hz
  have Hz3 := Lib.hid (short2 (B := 3000000) (by omega) hz)
  clear hr hz
  cases hok : okTree fs
  · have Hok := Lib.hid hok
    have Hno := Lib.hid (packagesOf_no hok)
    clear hok
    go_enter Try.func43, Try.ntmps43
    go_wp2_with (go_at_call 65; refine (spec_validTree _ fs D _ (Hr.out.below (by (repeat (with_reducible first | exact Below.refl _ _ | assumption | refine ba ?_ _ | refine bd ?_ | refine bdN ?_ _ | refine bs ?_ (by first | exact Nat.le_refl _ | (dsimp only; omega) | (simp; done)) _ | refine bt ?_ (by assumption))))) Hz3.out).mono ?_; (rintro _ _ ⟨rfl, hb⟩; obtain ⟨hc, hf, hs⟩ := bcell hb); rw [Hok.out])
    go_ret
    exact newStrs_no Hno.out (by (repeat (with_reducible first | exact Below.refl _ _ | assumption | refine ba ?_ _ | refine bd ?_ | refine bdN ?_ _ | refine bs ?_ (by first | exact Nat.le_refl _ | (dsimp only; omega) | (simp; done)) _ | refine bt ?_ (by assumption))))
  · have Hok := Lib.hid hok
    have Hall := Lib.hid (okTree_all hok).1
    have h12 := (okTree_all hok).2.2
    have Hyes := Lib.hid (packagesOf_at hok)
    clear hok
    go_enter Try.func43, Try.ntmps43
    go_wp2_with (go_at_call 65; refine (spec_validTree _ fs D _ (Hr.out.below (by (repeat (with_reducible first | exact Below.refl _ _ | assumption | refine ba ?_ _ | refine bd ?_ | refine bdN ?_ _ | refine bs ?_ (by first | exact Nat.le_refl _ | (dsimp only; omega) | (simp; done)) _ | refine bt ?_ (by assumption))))) Hz3.out).mono ?_; rintro _ wj ⟨rfl, hb⟩; have Hx := Lib.hid ((Boxed.start w #[.slice aa fs.length ca] 25).step hb); have hA : wj.cell? ⟨w.heap.size, 0, none⟩ = some (.slice aa fs.length ca) := Hx.out.cell 0; rw [Hok.out])
    have Hown0 := Lib.hid (World.ownsRow_made (base := w.heap.size + 1) (size := 1) (e := 9) wj #[] 0 (by have := Hx.out.lt; omega) (by unfold maxLen; omega) rfl)
    have Hx0 := Lib.hid (Hx.out.step (ba (Below.refl _ _) (.cells #[] 9)))
    clear hb hA
    go_loopw [3, 4] (fun nv iv wr => ∃ (k g cap : Nat), k ≤ fs.length ∧ iv = .int .i64 k ∧ nv = .slice (some ⟨g, 0, none⟩) (sortUp (pkOf (fs.take k))).length cap ∧ wr.ownsRow (w.heap.size + 1) 9 1 (.slice (some ⟨g, 0, none⟩) (sortUp (pkOf (fs.take k))).length cap) (sortUp (pkOf (fs.take k))).length ((sortUp (pkOf (fs.take k))).map sv) ∧ Boxed w #[.slice aa fs.length ca] 25 wr) (fun _ iv _ => fs.length - (intOf iv).toNat)
    case atStart => exact ⟨0, _, 0, by omega, rfl, rfl, Hown0.out, Hx0.out⟩
    case round =>
      obtain ⟨k, g, cap, hk, rfl, rfl, hown, hbx⟩ := hrel
      have hbel := hbx.below
      have hsz := hbx.lt
      have hA : wr.cell? ⟨w.heap.size, 0, none⟩ = some (.slice aa fs.length ca) := hbx.cell 0
      have Hown := Lib.hid hown
      have Hbx := Lib.hid hbx
      have Hup := Lib.hid (sortUp_up (pkOf (fs.take k)))
      have hln : (sortUp (pkOf (fs.take k))).length ≤ 36 := Nat.le_trans (sortUp_len _) (Nat.le_trans (pkOf_len _) (by simp; omega))
      clear hown hbx Hx Hx0 Hown0
      by_cases hlt : k < fs.length
      · obtain ⟨b, off, cap', bv, e, hD, hb, hbody, c0, c1, c2, c3, c4, c5⟩ := (Hr.out.below hbel).at_ hlt
        simp only [Value.slice.injEq] at e
        obtain ⟨rfl, _, rfl⟩ := e
        obtain ⟨z1, z2, z3⟩ := Hz.out _ (List.getElem_mem hlt)
        have hvp := okFil_pack (List.all_eq_true.1 Hall.out _ (List.getElem_mem hlt))
        have Hs := Lib.hid (show sortUp (pkOf (fs.take (k + 1))) = (namesAbove fs[k].pack).foldl insTo (sortUp (pkOf (fs.take k))) by rw [pkOf_snoc fs k hlt, sortUp_app])
        obtain ⟨fp, hfp⟩ : ∃ fp, fp = fs[k].pack := ⟨_, rfl⟩
        rw [← hfp] at c1 z1 Hs hvp
        clear hfp hbody z3 z2 c0 c2 c3 c4 c5
        have Hif := Lib.hid (above_if hvp)
        by_cases h0 : fp = []
        · subst h0
          have Hs2 := Lib.hid (show sortUp (pkOf (fs.take (k + 1))) = sortUp (pkOf (fs.take k)) by rw [Hs.out, ← Hif.out]; rfl)
          go_wp2_with fail
          go_roundw
          case rel => exact ⟨k + 1, g, cap, by omega, by go_num, by rw [Hs2.out], by rw [Hs2.out]; exact Hown.out, Hbx.out⟩
          case measure => simp [intOf]; omega
        · have hpb : (fp == []) = false := by simpa using h0
          have hie : fp.isEmpty = false := by cases fp with | nil => exact absurd rfl h0 | cons a b => rfl
          have Hnm := Lib.hid (show namesAbove fp = above fp by rw [← Hif.out, hie]; rfl)
          rw [Hnm.out] at Hs
          have hal : (above fp).length ≤ 3 := by rw [← Hnm.out]; exact namesAbove_le3 fp
          clear hie
          generalize hL : sortUp (pkOf (fs.take k)) = L at *
          go_wp2_with (go_at_call 93; refine (spec_above fp _ (by omega)).mono ?_; rintro _ w6 ⟨v6, rfl, hown6, hb6⟩; have Hown6 := Lib.hid hown6; have Hb6 := Lib.hid hb6; obtain ⟨a6, c6, hv6⟩ := owns_shape hown6; subst hv6; clear hown6 hb6)
          have hg := (Hown.out.lt g rfl).2
          have Hdis := Lib.hid (show ∀ b, (Value.slice a6 (above fp).length c6).ownBlock = some b → b ≠ g from fun b hb e => by have := (Hown6.out.lt b hb).1; omega)
          have Hown1 := Lib.hid (owns_below Hown.out Hb6.out)
          have Hbx1 := Lib.hid (Hbx.out.step Hb6.out)
          clear Hnm Hif
          generalize above fp = ys at *
          go_loopw [3, 6] (fun nv jv ws => ∃ (j g' cp : Nat), j ≤ ys.length ∧ jv = .int .i64 j ∧ nv = .slice (some ⟨g', 0, none⟩) ((ys.take j).foldl insTo L).length cp ∧ ws.ownsRow (w.heap.size + 1) 9 1 (.slice (some ⟨g', 0, none⟩) ((ys.take j).foldl insTo L).length cp) ((ys.take j).foldl insTo L).length (((ys.take j).foldl insTo L).map sv) ∧ Boxed w #[.slice (some ⟨b, off, none⟩) fs.length ca] 25 ws ∧ ws.ownsRow wr.heap.size 9 1 (.slice a6 ys.length c6) ys.length (ys.map sv) ∧ (∀ b, (Value.slice a6 ys.length c6).ownBlock = some b → b ≠ g')) (fun _ jv _ => ys.length - (intOf jv).toNat)
          case atStart => exact ⟨0, g, cap, by omega, rfl, rfl, Hown1.out, Hbx1.out, Hown6.out, Hdis.out⟩
          case round =>
            obtain ⟨j, g', cp, hj, rfl, rfl, hownj, hbxj, hlistj, hdisj⟩ := hrel
            have Hownj := Lib.hid hownj
            have Hbxj := Lib.hid hbxj
            have Hdisj := Lib.hid hdisj
            have hszj := hbxj.lt
            have hAj : wr.cell? ⟨w.heap.size, 0, none⟩ = some (.slice (some ⟨b, off, none⟩) fs.length ca) := hbxj.cell 0
            have Hupj := Lib.hid (show Up ((ys.take j).foldl insTo L) from foldIns_up _ Hup.out)
            have hlj : ((ys.take j).foldl insTo L).length ≤ 39 := Nat.le_trans (foldIns_len _ _) (by simp; omega)
            clear hownj hbxj hdisj
            by_cases hjl : j < ys.length
            · obtain ⟨gl, cl, el, hgl1, hgl2⟩ := hlistj.form (by omega)
              simp only [Value.slice.injEq] at el
              obtain ⟨rfl, _, rfl⟩ := el
              have hcj : wr.cell? ⟨gl, j, none⟩ = some (.string (mk ys[j])) := by
                rw [hlistj.cellAt j (by omega), List.getElem?_map, List.getElem?_eq_getElem hjl]; rfl
              have Hlistj := Lib.hid hlistj
              have hne : gl ≠ g' := Hdisj.out gl rfl
              have Hst := Lib.hid (foldIns_step L ys j hjl)
              clear hlistj
              generalize ys[j] = y at *
              generalize (ys.take j).foldl insTo L = M at *
              go_wp2_with (go_at_call 91; refine (spec_insertText (w.heap.size + 1) g' cp M y _ Hownj.out Hupj.out (by omega) (by omega)).mono ?_; rintro _ w7 ⟨g7, c7, rfl, hown7, hb7, ht7, hq7⟩)
              have Hown7 := Lib.hid hown7
              have Hx7 := Lib.hid (boxed_low Hbxj.out hb7)
              have Hl7 := Lib.hid (owns_turned Hlistj.out ht7 (fun b hb e => hne (by cases hb; exact e)))
              have hne7 : gl ≠ g7 := by omega
              clear hown7 hb7 ht7
              go_roundw
              case rel => exact ⟨j + 1, g7, c7, by omega, by go_num, by rw [Hst.out], by rw [Hst.out]; exact Hown7.out, Hx7.out, Hl7.out, fun b hb => by cases hb; exact hne7⟩
              case measure => simp [intOf]; omega
            · obtain rfl : j = ys.length := by omega
              have Hfin := Lib.hid (show sortUp (pkOf (fs.take (k + 1))) = (ys.take ys.length).foldl insTo L by rw [List.take_length]; exact Hs.out)
              clear hlistj
              generalize (ys.take ys.length).foldl insTo L = M at *
              go_wp2_with fail
              refine ⟨⟨k + 1, g', cp, by omega, by go_num, by rw [Hfin.out], by rw [Hfin.out]; exact Hownj.out, Hbxj.out⟩, ?_⟩
              simp [intOf]; omega
      · obtain rfl : k = fs.length := by omega
        have Hf := Lib.hid (show sortUp (pkOf (fs.take fs.length)) = packagesOf fs by rw [List.take_length]; exact Hyes.out)
        go_wp2_with fail
        go_ret
        refine ⟨_, rfl, ?_, hbel⟩
        rw [← Hf.out]
        exact owns_mono Hown.out (by omega)
end Go.Proofs.Ytoleklppgmeflaa
