/- Contracts of the functions that list the modules and the packages of a tree. -/
import Derived.Test.YtcmnldomcpjlcaaGreatSorts
import Derived.Test.YtcmnldomcpjlcaaGreatDirs2
import Derived.Test.YtcmnldomcpjlcaaGreatKin
import Derived.Test.YtcmnldomcpjlcaaGreatPlainG
import Derived.Test.YtcmnldomcpjlcaaGreatBoth
import Derived.Test.YtcmnldomcpjlcaaGreatMarks2
set_option linter.unusedVariables false
set_option linter.unusedSimpArgs false
namespace Go.Proofs.YtcmnldomcpjlcaaGreat
open Go.RowKit Go.Proofs.YtcmnldomcpjlcaaGreat.Nm

theorem map_take_snoc {α : Type} (f : α → Bs) (xs : List α) (k : Nat) (h : k < xs.length) : (xs.take (k + 1)).map f = (xs.take k).map f ++ [f xs[k]] := by
  rw [List.take_succ_eq_append_getElem h, List.map_append]; rfl
theorem modulesOf_at {fs : List Fil} (h : okTree fs = true) : sortUp (fs.map modAt) = modulesOf fs := by
  have e : fs.map modAt = fs.map modName := List.map_congr_left (fun f hf => (okFil_mod (List.all_eq_true.1 (okTree_all h).1 f hf)).1)
  rw [modulesOf, if_pos h, e]
theorem modulesOf_no {fs : List Fil} (h : okTree fs = false) : modulesOf fs = [] := by rw [modulesOf, h]; rfl
theorem newStrs_no {T : TypeId} {xs : List Bs} {w w' : World} (h : xs = []) (hb : Below w.heap.size w w') : NewStrs T xs w (.returned (.slice none 0 0)) w' := by
  subst h; exact ⟨_, rfl, World.ownsRow_nil _ _ _ _, hb⟩
theorem own_all {α : Type} {f : α → Bs} {w : World} {N : Nat} {T : TypeId} {v : Value} {fs : List α} (h : w.ownsRow N T 1 v fs.length (((fs.take fs.length).map f).map sv)) : w.ownsRow N T 1 v (fs.map f).length ((fs.map f).map sv) := by
  rw [List.take_length] at h; rw [List.length_map]; exact h
theorem le_size {wr W : World} {B : Nat} (hb : Below wr.heap.size wr W) (h : B < wr.heap.size) : B + 1 ≤ W.heap.size := Nat.le_trans h hb.size
theorem boxed_low {w wr w' : World} {cs : Array Value} {T : TypeId} (h : Boxed w cs T wr) (hb : Below (w.heap.size + 1) wr w') : Boxed w cs T w' := by
  have e : (w.alloc (.cells cs T)).heap.size = w.heap.size + 1 := by simp
  unfold Boxed at *
  exact h.trans (by rw [e]; exact hb)

set_option maxRecDepth 100000 in
set_option maxHeartbeats 1000000 in
theorem impl_ModulesOf (v : Value) (fs : List Fil) (D : Nat → Prop) (w : World) (hr : FilsIn w D v fs) (hz : ShortT 2000000 fs) :
    Calls Tryz.prog 102 #[.agg #[v]] w (NewStrs 9 (modulesOf fs) w) := by
  obtain ⟨i0, hi, hz0, hz1, hz2⟩ := info_parts infoS
  have Hi := Lib.hid hi
  have Hz0 := Lib.hid hz0
  have Hz1 := Lib.hid hz1
  have Hz2 := Lib.hid hz2
  have Hr := Lib.hid hr
  obtain ⟨aa, ca, rfl, hl, hm⟩ := hr.len
  unfold maxLen at hm
  have Hz := Lib.hid hz
  have Hz8 := Lib.hid (short2 (B := 8000000) (by omega) hz)
  clear hr hz hi hz0 hz1 hz2
  cases hok : okTree fs
  · have Hok := Lib.hid hok
    have Hno := Lib.hid (modulesOf_no hok)
    clear hok
    go_enter Tryz.func102, Tryz.ntmps102
    go_wp2_with (go_at_call 47; refine (impl_ValidTree _ fs D _ (Hr.out.below (by (repeat (with_reducible first | exact Below.refl _ _ | assumption | refine ba ?_ _ | refine bd ?_ | refine bdN ?_ _ | refine bs ?_ (by first | exact Nat.le_refl _ | (dsimp only; omega) | (simp; done)) _ | refine bt ?_ (by assumption))))) Hz8.out).mono ?_; (rintro _ _ ⟨rfl, hb⟩; obtain ⟨hc, hf, hs⟩ := bcell hb); rw [Hok.out])
    go_ret
    exact newStrs_no Hno.out (by (repeat (with_reducible first | exact Below.refl _ _ | assumption | refine ba ?_ _ | refine bd ?_ | refine bdN ?_ _ | refine bs ?_ (by first | exact Nat.le_refl _ | (dsimp only; omega) | (simp; done)) _ | refine bt ?_ (by assumption))))
  · have Hok := Lib.hid hok
    have h12 := (okTree_all hok).2.2
    have Hyes := Lib.hid (modulesOf_at hok)
    clear hok
    go_enter Tryz.func102, Tryz.ntmps102
    go_wp2_with (go_at_call 47; refine (impl_ValidTree _ fs D _ (Hr.out.below (by (repeat (with_reducible first | exact Below.refl _ _ | assumption | refine ba ?_ _ | refine bd ?_ | refine bdN ?_ _ | refine bs ?_ (by first | exact Nat.le_refl _ | (dsimp only; omega) | (simp; done)) _ | refine bt ?_ (by assumption))))) Hz8.out).mono ?_; rintro _ wj ⟨rfl, hb⟩; have Hx := Lib.hid ((Boxed.start w #[.slice aa fs.length ca] 31).step hb); have hA : wj.cell? ⟨w.heap.size, 0, none⟩ = some (.slice aa fs.length ca) := Hx.out.cell 0; rw [Hok.out])
    clear hb hA
    go_loopw [3, 12] (fun nv iv wr => ∃ k : Nat, k ≤ fs.length ∧ iv = .int .i64 k ∧ wr.ownsRow (w.heap.size + 1) 9 1 nv k (((fs.take k).map modAt).map sv) ∧ Boxed w #[.slice aa fs.length ca] 31 wr) (fun _ iv _ => fs.length - (intOf iv).toNat)
    case atStart => exact ⟨0, by omega, rfl, World.ownsRow_nil _ _ _ _, Hx.out⟩
    case round =>
      obtain ⟨k, hk, rfl, hown, hbx⟩ := hrel
      have hbel := hbx.below
      have hsz := hbx.lt
      have Hown := Lib.hid hown
      have Hbx := Lib.hid hbx
      clear hown hbx Hx
      by_cases hlt : k < fs.length
      · obtain ⟨b, off, cap, bv, e, hD, hb, hbody, c0, c1, c2, c3, c4, c5⟩ := (Hr.out.below hbel).at_ hlt
        simp only [Value.slice.injEq] at e
        obtain ⟨rfl, _, rfl⟩ := e
        obtain ⟨ba', bc', rfl, hbl, hbm⟩ := hbody.len
        obtain ⟨z1, z2, z3⟩ := Hz.out _ (List.getElem_mem hlt)
        have Hs := Lib.hid (map_take_snoc modAt fs k hlt)
        obtain ⟨f, hf⟩ : ∃ f, f = fs[k] := ⟨_, rfl⟩
        rw [← hf] at c0 c1 c2 c3 c4 c5 z1 z2 Hs
        clear hf hbody hbm hbl z3
        obtain ⟨fr, fp, fn, fi, fst, fb⟩ := f
        dsimp only at c0 c1 c2 c3 c4 c5 z1 z2
        obtain ⟨mn, hmn⟩ : ∃ mn, mn = modAt ⟨fr, fp, fn, fi, fst, fb⟩ := ⟨_, rfl⟩
        rw [← hmn] at Hs
        have Hmn := Lib.hid hmn
        clear hmn
        go_wp2_with (first
          | (go_at_call 135; refine (impl_moduleAt _ _ _ _ _ _ fb _ (by omega) (by omega)).mono ?_; (rintro _ _ ⟨rfl, hb⟩; obtain ⟨hc, hf, hs⟩ := bcell hb); rw [← Hmn.out])
          | (at_builtin; refine wpList_append_own _ rfl _ _ 27 rfl (w.heap.size + 1) 9 i0 (.string ByteArray.empty) 1 16 Tryz.underlying27 Hi.out Hz0.out Hz1.out Hz2.out rfl (by decide) _ k _ rfl ((owns_below Hown.out (by (repeat (with_reducible first | exact Below.refl _ _ | assumption | refine ba ?_ _ | refine bd ?_ | refine bdN ?_ _ | refine bs ?_ (by first | exact Nat.le_refl _ | (dsimp only; omega) | (simp; done)) _ | refine bt ?_ (by assumption))))).alloc _) ⟨_, 0, none⟩ 1 1 [.string (mk mn)] rfl rfl (one_new (by first | rfl | simp)) (fun x hx => by simp at hx; subst hx; rfl) (by unfold maxLen; omega) (by omega) (base_le (by (repeat (with_reducible first | exact Below.refl _ _ | assumption | refine ba ?_ _ | refine bd ?_ | refine bdN ?_ _ | refine bs ?_ (by first | exact Nat.le_refl _ | (dsimp only; omega) | (simp; done)) _ | refine bt ?_ (by assumption)))) hsz) ?_; intro v7 w7 hown7 hgrow7 hnil7))
        have Hx7 := Lib.hid (below_first Hbx.out (by (repeat (with_reducible first | exact Below.refl _ _ | assumption | refine ba ?_ _ | refine bd ?_ | refine bdN ?_ _ | refine bs ?_ (by first | exact Nat.le_refl _ | (dsimp only; omega) | (simp; done)) _ | refine bt ?_ (by assumption)))) hgrow7 (fun g hg => (Hown.out.lt g hg).1))
        have Hown7 := Lib.hid (show w7.ownsRow (w.heap.size + 1) 9 1 v7 (k + 1) (((fs.take (k + 1)).map modAt).map sv) by rw [Hs.out, ← map_snoc]; exact hown7)
        clear hown7 hgrow7 hnil7
        go_roundw
        case rel => exact ⟨k + 1, by omega, by go_num, Hown7.out, Hx7.out⟩
        case measure => simp [intOf]; omega
      · obtain rfl : k = fs.length := by omega
        have Hasc := Lib.hid (impl_ascending (w.heap.size + 1) _ (fs.map modAt) wr (own_all Hown.out) (by omega) (by simp; omega))
        go_wp2_with (go_at_call 101; refine Hasc.out.mono ?_; rintro _ w9 ⟨v9, rfl, hown9, hb9⟩)
        go_ret
        refine ⟨_, rfl, ?_, hbel.trans (hb9.mono (by omega))⟩
        rw [← Hyes.out]
        exact owns_mono hown9 (by omega)


/-! ### Contracts of the functions that list the packages of a tree. -/
def pkOf (fs : List Fil) : List Bs := fs.flatMap (fun f => namesAbove f.pack)
theorem pkOf_len : ∀ (fs : List Fil), (pkOf fs).length ≤ 3 * fs.length
  | [] => by simp [pkOf]
  | f :: r => by
    have h1 := pkOf_len r
    have h2 := namesAbove_le3 f.pack
    have e : pkOf (f :: r) = namesAbove f.pack ++ pkOf r := by simp [pkOf]
    rw [e, List.length_append, List.length_cons]
    omega
theorem pkOf_snoc (fs : List Fil) (k : Nat) (h : k < fs.length) : pkOf (fs.take (k + 1)) = pkOf (fs.take k) ++ namesAbove fs[k].pack := by
  simp only [pkOf, List.take_succ_eq_append_getElem h, List.flatMap_append, List.flatMap_cons, List.flatMap_nil, List.append_nil]
theorem flatMap_same {f g : Fil → List Bs} : ∀ (fs : List Fil), (∀ x ∈ fs, f x = g x) → fs.flatMap f = fs.flatMap g
  | [], _ => rfl
  | x :: r, h => by rw [List.flatMap_cons, List.flatMap_cons, h x (List.mem_cons_self ..), flatMap_same r (fun y hy => h y (List.mem_cons_of_mem _ hy))]
theorem above_if {p : Bs} (h : vpk p = true) : (if p.isEmpty then [] else above p) = namesAbove p := by
  rcases vpk_iff.1 h with rfl | hv
  · simp [namesAbove, vn_nil]
  · have : p.isEmpty = false := by
      cases p with
      | nil => rw [vn_nil] at hv; cases hv
      | cons a b => rfl
    rw [this, namesAbove, hv]; rfl
theorem packs_eq {fs : List Fil} (h : fs.all okFil = true) : packs fs = pkOf fs :=
  flatMap_same fs (fun f hf => above_if (okFil_pack (List.all_eq_true.1 h f hf)))
theorem packagesOf_at {fs : List Fil} (h : okTree fs = true) : sortUp (pkOf fs) = packagesOf fs := by rw [packagesOf, if_pos h, packs_eq (okTree_all h).1]
theorem packagesOf_no {fs : List Fil} (h : okTree fs = false) : packagesOf fs = [] := by rw [packagesOf, h]; rfl

set_option maxRecDepth 100000 in
set_option maxHeartbeats 2000000 in
theorem impl_PackagesOf (v : Value) (fs : List Fil) (D : Nat → Prop) (w : World) (hr : FilsIn w D v fs) (hz : ShortT 2000000 fs) :
    Calls Tryz.prog 103 #[.agg #[v]] w (NewStrs 9 (packagesOf fs) w) := by
  obtain ⟨i0, hi, hz0, hz1, hz2⟩ := info_parts infoS
  have Hi := Lib.hid hi
  have Hz0 := Lib.hid hz0
  have Hz1 := Lib.hid hz1
  have Hz2 := Lib.hid hz2
  have Hr := Lib.hid hr
  obtain ⟨aa, ca, rfl, hl, hm⟩ := hr.len
  unfold maxLen at hm
  have Hz := Lib.hid hz
  have Hz8 := Lib.hid (short2 (B := 8000000) (by omega) hz)
  clear hr hz hi hz0 hz1 hz2
  cases hok : okTree fs
  · have Hok := Lib.hid hok
    have Hno := Lib.hid (packagesOf_no hok)
    clear hok
    go_enter Tryz.func103, Tryz.ntmps103
    go_wp2_with (go_at_call 47; refine (impl_ValidTree _ fs D _ (Hr.out.below (by (repeat (with_reducible first | exact Below.refl _ _ | assumption | refine ba ?_ _ | refine bd ?_ | refine bdN ?_ _ | refine bs ?_ (by first | exact Nat.le_refl _ | (dsimp only; omega) | (simp; done)) _ | refine bt ?_ (by assumption))))) Hz8.out).mono ?_; (rintro _ _ ⟨rfl, hb⟩; obtain ⟨hc, hf, hs⟩ := bcell hb); rw [Hok.out])
    go_ret
    exact newStrs_no Hno.out (by (repeat (with_reducible first | exact Below.refl _ _ | assumption | refine ba ?_ _ | refine bd ?_ | refine bdN ?_ _ | refine bs ?_ (by first | exact Nat.le_refl _ | (dsimp only; omega) | (simp; done)) _ | refine bt ?_ (by assumption))))
  · have Hok := Lib.hid hok
    have h12 := (okTree_all hok).2.2
    have Hyes := Lib.hid (packagesOf_at hok)
    clear hok
    go_enter Tryz.func103, Tryz.ntmps103
    go_wp2_with (go_at_call 47; refine (impl_ValidTree _ fs D _ (Hr.out.below (by (repeat (with_reducible first | exact Below.refl _ _ | assumption | refine ba ?_ _ | refine bd ?_ | refine bdN ?_ _ | refine bs ?_ (by first | exact Nat.le_refl _ | (dsimp only; omega) | (simp; done)) _ | refine bt ?_ (by assumption))))) Hz8.out).mono ?_; rintro _ wj ⟨rfl, hb⟩; have Hx := Lib.hid ((Boxed.start w #[.slice aa fs.length ca] 31).step hb); have hA : wj.cell? ⟨w.heap.size, 0, none⟩ = some (.slice aa fs.length ca) := Hx.out.cell 0; rw [Hok.out])
    clear hb hA
    go_loopw [3, 12] (fun nv iv wr => ∃ k : Nat, k ≤ fs.length ∧ iv = .int .i64 k ∧ wr.ownsRow (w.heap.size + 1) 9 1 nv (pkOf (fs.take k)).length ((pkOf (fs.take k)).map sv) ∧ Boxed w #[.slice aa fs.length ca] 31 wr) (fun _ iv _ => fs.length - (intOf iv).toNat)
    case atStart => exact ⟨0, by omega, rfl, World.ownsRow_nil _ _ _ _, Hx.out⟩
    case round =>
      obtain ⟨k, hk, rfl, hown, hbx⟩ := hrel
      have hbel := hbx.below
      have hsz := hbx.lt
      have Hown := Lib.hid hown
      have Hbx := Lib.hid hbx
      clear hown hbx Hx
      by_cases hlt : k < fs.length
      · obtain ⟨b, off, cap, bv, e, hD, hb, hbody, c0, c1, c2, c3, c4, c5⟩ := (Hr.out.below hbel).at_ hlt
        simp only [Value.slice.injEq] at e
        obtain ⟨rfl, _, rfl⟩ := e
        obtain ⟨ba', bc', rfl, hbl, hbm⟩ := hbody.len
        obtain ⟨z1, z2, z3⟩ := Hz.out _ (List.getElem_mem hlt)
        have Hs := Lib.hid (pkOf_snoc fs k hlt)
        have hpl : (pkOf (fs.take k)).length ≤ 36 := Nat.le_trans (pkOf_len _) (by simp; omega)
        obtain ⟨f, hf⟩ : ∃ f, f = fs[k] := ⟨_, rfl⟩
        rw [← hf] at c0 c1 c2 c3 c4 c5 z1 z2 Hs
        clear hf hbody hbm hbl z3
        obtain ⟨fr, fp, fn, fi, fst, fb⟩ := f
        dsimp only at c0 c1 c2 c3 c4 c5 z1 z2 Hs
        have hn3 := namesAbove_le3 fp
        obtain ⟨nl, hnl⟩ : ∃ nl, nl = namesAbove fp := ⟨_, rfl⟩
        rw [← hnl] at Hs hn3
        have Hnl := Lib.hid hnl
        clear hnl
        generalize pkOf (fs.take k) = L at *
        go_wp2_with (first
          | (go_at_call 44; refine (impl_NamesAbove fp _ (by omega)).mono ?_; rintro _ w6 ⟨v6, rfl, hown6, hb⟩; rw [← Hnl.out] at hown6; have Hown6 := Lib.hid hown6; have Hb6 := Lib.hid (show Below wr.heap.size wr w6 by (repeat (with_reducible first | exact Below.refl _ _ | assumption | refine ba ?_ _ | refine bd ?_ | refine bdN ?_ _ | refine bs ?_ (by first | exact Nat.le_refl _ | (dsimp only; omega) | (simp; done)) _ | refine bt ?_ (by assumption)))); obtain ⟨hc, hf, hs⟩ := bcell hb; clear hown6)
          | (at_builtin; refine wpList_append_both rfl _ _ 27 rfl (w.heap.size + 1) 9 i0 (.string ByteArray.empty) 1 16 Tryz.underlying27 Hi.out Hz0.out Hz1.out Hz2.out rfl (by decide) _ L.length _ rfl (owns_below Hown.out Hb6.out) _ v6 nl.length _ rfl Hown6.out (one_sv _) (by unfold maxLen; omega) (by omega) (le_size Hb6.out hsz) ?_; intro v7 w7 hown7 hgrow7))
        have Hx7 := Lib.hid (below_first Hbx.out Hb6.out hgrow7 (fun g hg => (Hown.out.lt g hg).1))
        have Hown7 := Lib.hid (show w7.ownsRow (w.heap.size + 1) 9 1 v7 (L ++ nl).length ((L ++ nl).map sv) by rw [List.length_append, List.map_append]; exact hown7)
        clear hown7 hgrow7
        go_roundw
        case rel => exact ⟨k + 1, by omega, by go_num, by rw [Hs.out]; exact Hown7.out, Hx7.out⟩
        case measure => simp [intOf]; omega
      · obtain rfl : k = fs.length := by omega
        have hpl : (pkOf fs).length ≤ 36 := Nat.le_trans (pkOf_len _) (by omega)
        have Hasc := Lib.hid (impl_ascending (w.heap.size + 1) _ (pkOf fs) wr (by have h := Hown.out; rw [List.take_length] at h; exact h) (by omega) (by omega))
        go_wp2_with (go_at_call 101; refine Hasc.out.mono ?_; rintro _ w9 ⟨v9, rfl, hown9, hb9⟩)
        go_ret
        refine ⟨_, rfl, ?_, hbel.trans (hb9.mono (by omega))⟩
        rw [← Hyes.out]
        exact owns_mono hown9 (by omega)

end Go.Proofs.YtcmnldomcpjlcaaGreat
