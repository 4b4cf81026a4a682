/- The exact laws' looks at marks in disks that are the call's own. -/
import Derived.Test.YtcphhmpedejkcaaDskMem
import Derived.Test.YtcphhmpedejkcaaHeld
import Derived.Test.YtcphhmpedejkcaaDskF
set_option linter.unusedVariables false
set_option linter.unusedSimpArgs false
namespace Go.Proofs.Ytcphhmpedejkcaa
open Go.RowKit Go.Proofs.Ytcphhmpedejkcaa.Nm

theorem markQ_at (k : Nat) (qs : List (Dr × Value)) (i : Nat) (h : i < qs.length) (h' : i < (markQ k qs).length) : (markQ k qs)[i] = (markDr (endD k ((qs.take i).map (·.1))) qs[i].1, qs[i].2) := by
  have hi' : i < (qs.map (·.1)).length := by simpa using h
  have e := marksD_snoc k (qs.map (·.1)) i hi'
  have h2 : marksD k (qs.map (·.1)) = marksD k ((qs.map (·.1)).take (i + 1)) ++ marksD (endD k ((qs.map (·.1)).take (i + 1))) ((qs.map (·.1)).drop (i + 1)) := by rw [← marksD_app, List.take_append_drop]
  have hl : (marksD k ((qs.map (·.1)).take i)).length = i := by rw [marksD_len]; simp; omega
  have h3 : (marksD k (qs.map (·.1)))[i]? = some (markDr (endD k ((qs.map (·.1)).take i)) (qs.map (·.1))[i]) := by
    rw [h2, e, List.append_assoc, List.getElem?_append_right (by omega), hl, Nat.sub_self]; rfl
  have h4 : (marksD k (qs.map (·.1)))[i]'(by rw [marksD_len]; simpa using h) = markDr (endD k ((qs.map (·.1)).take i)) (qs.map (·.1))[i] := by
    rw [List.getElem?_eq_getElem (by rw [marksD_len]; simpa using h)] at h3
    exact Option.some.inj h3
  have h'' : i < ((marksD k (qs.map (·.1))).zip (qs.map (·.2))).length := h'
  show ((marksD k (qs.map (·.1))).zip (qs.map (·.2)))[i]'h'' = _
  rw [List.getElem_zip, h4, List.getElem_map, List.getElem_map, List.map_take]
theorem laws_heldStringSI (v : Value) (n : Nat) (x : Int) (k : Nat) (w : World) (hx : x = k) (hr : Reads w v (marks k n)) (h1 : 1 ≤ k) (h9 : k + n ≤ 9000000) :
    Calls Try.prog 105 #[v, .int .i64 x] w fun e w' => e = .returned (.int .i64 ((k + n : Nat) : Int)) ∧ Below w.heap.size w w' := by subst hx; exact laws_heldStringS v n k w hr h1 h9
set_option maxRecDepth 100000 in
set_option maxHeartbeats 4000000 in
theorem laws_heldDirS (B : Nat) (v : Value) (qs : List (Dr × Value)) (k : Nat) (w : World) (hown : OwnDirs w B v (markQ k qs)) (h1 : 1 ≤ k) (h9 : endD k (qs.map (·.1)) ≤ 9000000) (hn9 : qs.length ≤ 9000000) :
    Calls Try.prog 59 #[v, .int .i64 k] w fun e w' => e = .returned (.int .i64 ((endD k (qs.map (·.1)) : Nat) : Int)) ∧ Below w.heap.size w w' := by
  have hl := markQ_len k qs
  have Hown := Lib.hid hown
  obtain ⟨aa, ca, rfl⟩ := hown.len
  have H9 := Lib.hid h9
  have Hl := Lib.hid hl
  rw [hl]
  clear hown hl h9
  go_enter Try.func59, Try.ntmps59
  go_wp2_with fail
  go_loopw [1, 5] (fun kv iv wr => ∃ i : Nat, i ≤ qs.length ∧ iv = .int .i64 i ∧ kv = .int .i64 ((endD k ((qs.map (·.1)).take i) : Nat) : Int) ∧ Below w.heap.size w wr) (fun _ iv _ => qs.length - (intOf iv).toNat)
  case atStart => exact ⟨0, by omega, rfl, rfl, Below.refl _ _⟩
  case round =>
    obtain ⟨i, hi, rfl, rfl, hbel⟩ := hrel
    by_cases hlt : i < qs.length
    · have hrow := Hown.out.below hbel
      obtain ⟨g, cap, e1, hg, hg2⟩ := hrow.1.form (by rw [Hl.out]; omega)
      simp only [Value.slice.injEq] at e1
      obtain ⟨rfl, hdel, rfl⟩ := e1
      clear hdel
      have hlt' : i < (markQ k qs).length := by rw [Hl.out]; exact hlt
      obtain ⟨⟨c0, c1, c2, c3⟩, _⟩ := own4 hrow.1 i hlt'
      have hnames := hrow.2.1 _ (List.getElem_mem hlt')
      rw [markQ_at k qs i hlt hlt'] at c0 c1 c2 c3 hnames
      have hgl : g < wr.heap.size := (hrow.1.lt g rfl).2
      have hi' : i < (qs.map (·.1)).length := by simpa using hlt
      have Hend := Lib.hid (endD_snoc k (qs.map (·.1)) i hi')
      have hmb : 1 ≤ endD k ((qs.map (·.1)).take i) ∧ nextD (endD k ((qs.map (·.1)).take i)) (qs.map (·.1))[i] ≤ 9000000 := by
        refine ⟨Nat.le_trans h1 (endD_mono _ _), ?_⟩
        have h := endD_take k (qs.map (·.1)) (i + 1)
        rw [Hend.out] at h
        exact Nat.le_trans h H9.out
      rw [List.getElem_map] at hmb Hend
      rw [List.map_take] at c0 c1 c2 c3 hnames
      obtain ⟨m, hm⟩ : ∃ m, m = endD k ((qs.map (·.1)).take i) := ⟨_, rfl⟩
      obtain ⟨f, hf⟩ : ∃ f, f = qs[i] := ⟨_, rfl⟩
      rw [← hm, ← hf] at hmb c0 c1 c2 c3 hnames Hend
      rw [← hm]
      simp only [markDr] at c0 c1 c2 c3 hnames
      have hnf : nextD m f.1 = m + 3 + f.1.names.length := rfl
      rw [hnf] at hmb
      obtain ⟨t1, ht1⟩ : ∃ t, t = mt (m + 1) := ⟨_, rfl⟩
      rw [← ht1] at c1
      obtain ⟨⟨fr, fp, fst, fnm⟩, nv⟩ := f
      dsimp only at hmb c0 c1 c2 c3 hnames hnf Hend
      rw [marks_len] at hnames
      have Hnm := Lib.hid (Reads.of_owns (xs := marks (m + 3) fnm.length) (by rw [marks_len]; exact hnames))
      obtain ⟨na, nc, rfl⟩ := owns_shape hnames
      have Ht1 := Lib.hid ht1
      have Hbel := Lib.hid hbel
      have hi9 : (i : Int) ≤ 9000000 := by omega
      clear hm hf ht1 hbel hrow hnames hg hg2 hi'
      have Hk := Lib.hid (fun (w' : World) (hB : Below wr.heap.size wr w') => (⟨(hB.cell (p := ⟨g, i * 4 + 1, none⟩) hgl).trans c1, (hB.cell (p := ⟨g, i * 4 + 2, none⟩) hgl).trans c2, (hB.cell (p := ⟨g, i * 4 + 3, none⟩) hgl).trans c3, hB⟩ : w'.cell? ⟨g, i * 4 + 1, none⟩ = some (.string (mk t1)) ∧ w'.cell? ⟨g, i * 4 + 2, none⟩ = some (.int .i64 ((m : Int) + 1 + 1)) ∧ w'.cell? ⟨g, i * 4 + 3, none⟩ = some (.slice na fnm.length nc) ∧ Below wr.heap.size wr w'))
      go_wp2_with fail
      go_region_held3 (fun w' => w'.cell? ⟨g, i * 4 + 1, none⟩ = some (.string (mk t1)) ∧ w'.cell? ⟨g, i * 4 + 2, none⟩ = some (.int .i64 ((m : Int) + 1 + 1)) ∧ w'.cell? ⟨g, i * 4 + 3, none⟩ = some (.slice na fnm.length nc) ∧ Below wr.heap.size wr w')
        (exact Hk.out _ (by (repeat (with_reducible first | exact Below.refl _ _ | assumption | refine ba ?_ _ | refine bd ?_ | refine bdN ?_ _ | refine bs ?_ (by first | exact Nat.le_refl _ | (dsimp only; omega) | (simp; done)) _ | refine bt ?_ (by assumption)))))
        (first | (go_at_call 102; refine (laws_markTextI _ (m + 1) _ (by omega) (by omega) (by omega)).mono ?_; rintro _ w5 ⟨rfl, hb5⟩; rw [← Ht1.out]))
      have Hb6 := Lib.hid (show Below wr.heap.size wr w5 by (repeat (with_reducible first | exact Below.refl _ _ | assumption | refine ba ?_ _ | refine bd ?_ | refine bdN ?_ _ | refine bs ?_ (by first | exact Nat.le_refl _ | (dsimp only; omega) | (simp; done)) _ | refine bt ?_ (by assumption))))
      obtain ⟨_, d2, d3, _⟩ := Hk.out w5 Hb6.out
      clear c0 c1 c2 c3
      go_wp2_with (go_at_call 105; refine (laws_heldStringSI _ fnm.length _ (m + 3) _ (by omega) (Hnm.out.below Hb6.out) (by omega) (by omega)).mono ?_; rintro _ w9 ⟨rfl, hb9⟩; have hk0 : ¬ (((m + 3 + fnm.length : Nat)) : Int) < 0 := Int.not_lt.2 (Int.natCast_nonneg _))
      exact ⟨⟨i + 1, by omega, by go_num, by rw [Hend.out, hnf]; go_num, bt (bt Hbel.out Hb6.out) (bt (by (repeat (with_reducible first | exact Below.refl _ _ | assumption | refine ba ?_ _ | refine bd ?_ | refine bdN ?_ _ | refine bs ?_ (by first | exact Nat.le_refl _ | (dsimp only; omega) | (simp; done)) _ | refine bt ?_ (by assumption)))) hb9)⟩, by simp [intOf]; omega⟩
    · obtain rfl : i = qs.length := by omega
      go_wp2_with fail
      go_ret
      have e : (qs.map (·.1)).take qs.length = qs.map (·.1) := List.take_of_length_le (by simp)
      exact ⟨by rw [e]; rfl, hbel⟩
set_option maxRecDepth 100000 in
set_option maxHeartbeats 1000000 in
theorem laws_heldDisk (B : Nat) (v : Value) (c : Int) (u : Value) (ps : List (Fil × Value)) (qs : List (Dr × Value)) (k : Nat) (w : World) (hown : OwnDsk w B v (markP k ps) u (markQ (endF k (ps.map (·.1))) qs)) (h1 : 1 ≤ k) (h9 : endD (endF k (ps.map (·.1))) (qs.map (·.1)) ≤ 9000000) (hn9 : ps.length ≤ 9000000) (hm9 : qs.length ≤ 9000000) :
    Calls Try.prog 20 #[.agg #[v, .int .i64 c, u], .int .i64 k] w fun e w' => e = .returned (.int .i64 ((endD (endF k (ps.map (·.1))) (qs.map (·.1)) : Nat) : Int)) ∧ Below w.heap.size w w' := by
  have h8 : endF k (ps.map (·.1)) ≤ 9000000 := Nat.le_trans (endD_mono _ _) h9
  have h2 : 1 ≤ endF k (ps.map (·.1)) := Nat.le_trans h1 (endF_mono _ _)
  have hF : FilsIn w (fun _ => True) v (marksF k (ps.map (·.1))) := by have h := hown.1.fils (D := fun _ => True) (fun _ _ => trivial); rwa [markP_fst] at h
  have HF := Lib.hid hF
  have HD := Lib.hid hown.2
  obtain ⟨aa, ca, rfl⟩ := owns_shape hown.1.1
  obtain ⟨ab, cb, rfl⟩ := owns_shape hown.2.1
  have hl1 := markP_len k ps
  have hl2 := markQ_len (endF k (ps.map (·.1))) qs
  rw [hl1] at HF ⊢
  rw [hl2] at HD ⊢
  have H8 := Lib.hid h8
  have H9 := Lib.hid h9
  have H2 := Lib.hid h2
  clear hown hF hl1 hl2 h8 h9 h2
  have hx := BoxC.start w #[.slice aa ps.length ca, .int .i64 c, .slice ab qs.length cb] 38
  have Hx := Lib.hid hx
  go_enter Try.func20, Try.ntmps20
  go_wp2_with fail
  refine (laws_heldTree _ (fun _ => True) (ps.map (·.1)) k _ (HF.out.below (by (repeat (with_reducible first | exact Below.refl _ _ | assumption | refine ba ?_ _ | refine bd ?_ | refine bdN ?_ _ | refine bs ?_ (by first | exact Nat.le_refl _ | (dsimp only; omega) | (simp; done)) _ | refine bt ?_ (by assumption))))) h1 H8.out (by rw [List.length_map]; exact hn9)).mono ?_
  rintro _ w5 ⟨rfl, hb5⟩
  have x2 : w5.cell? ⟨w.heap.size, 2, none⟩ = some (.slice ab qs.length cb) := (Hx.out.below hb5).2 2
  have xs := (Hx.out.below hb5).1
  obtain ⟨m, hm⟩ : ∃ m, m = endF k (ps.map (·.1)) := ⟨_, rfl⟩
  rw [← hm] at HD H2 H9 ⊢
  have hk0 : ¬ ((m : Nat) : Int) < 0 := Int.not_lt.2 (Int.natCast_nonneg _)
  have Hm := Lib.hid hm
  clear H8 hm
  go_wp2_with fail
  refine (laws_heldDirS B _ qs m _ (HD.out.below (by (repeat (with_reducible first | exact Below.refl _ _ | assumption | refine ba ?_ _ | refine bd ?_ | refine bdN ?_ _ | refine bs ?_ (by first | exact Nat.le_refl _ | (dsimp only; omega) | (simp; done)) _ | refine bt ?_ (by assumption))))) H2.out H9.out hm9).mono ?_
  rintro _ w6 ⟨rfl, hb6⟩
  have hk1 : ¬ ((endD m (qs.map (·.1)) : Nat) : Int) < 0 := Int.not_lt.2 (Int.natCast_nonneg _)
  obtain ⟨r, hr⟩ : ∃ r, r = endD m (qs.map (·.1)) := ⟨_, rfl⟩
  rw [← hr] at hk1 ⊢
  have Hr := Lib.hid hr
  clear hr
  go_wp2_with fail
  go_ret
  rw [← Hm.out, ← Hr.out]
  exact ⟨rfl, by (repeat (with_reducible first | exact Below.refl _ _ | assumption | refine ba ?_ _ | refine bd ?_ | refine bdN ?_ _ | refine bs ?_ (by first | exact Nat.le_refl _ | (dsimp only; omega) | (simp; done)) _ | refine bt ?_ (by assumption)))⟩
theorem laws_heldDiskX (B : Nat) (v : Value) (c : Int) (u : Value) (ps : List (Fil × Value)) (qs : List (Dr × Value)) (fs : List Fil) (ds : List Dr) (k : Nat) (w : World) (hown : OwnDsk w B v (markP k ps) u (markQ (endF k (ps.map (·.1))) qs)) (e1 : ps.map (·.1) = fs) (e2 : qs.map (·.1) = ds) (h1 : 1 ≤ k) (h9 : endD (endF k fs) ds ≤ 9000000) (hn9 : fs.length ≤ 9000000) (hm9 : ds.length ≤ 9000000) :
    Calls Try.prog 20 #[.agg #[v, .int .i64 c, u], .int .i64 k] w fun e w' => e = .returned (.int .i64 ((endD (endF k fs) ds : Nat) : Int)) ∧ Below w.heap.size w w' := by
  subst e1 e2
  rw [List.length_map] at hn9 hm9
  exact laws_heldDisk B v c u ps qs k w hown h1 h9 hn9 hm9
theorem changed_fine (d : Dsk) (t : List Fil) (r : Int) (p : Bs) (k : Int) : (changed d t r p k).1.files.all okFil = true ∧ (changed d t r p k).1.files.length ≤ 12 ∧ (changed d t r p k).1.dirs.length ≤ 20 ∧ ∀ x ∈ (changed d t r p k).1.dirs, x.names = [] := by
  unfold changed
  split
  · rename_i h
    simp only [Bool.and_eq_true] at h
    obtain ⟨_, h2, h3⟩ := okDisk_all h.2
    have h4 := okTree_all h3
    exact ⟨h4.1, h4.2.2, okDirs_len h2, fun x hx => (okDirs_dr' h2 x hx).1⟩
  · simp
theorem diskAdd_fine (d : Dsk) (f : Fil) (k : Int) : (diskAdd d f k).1.files.all okFil = true ∧ (diskAdd d f k).1.files.length ≤ 12 ∧ (diskAdd d f k).1.dirs.length ≤ 20 ∧ ∀ x ∈ (diskAdd d f k).1.dirs, x.names = [] := by
  unfold diskAdd
  split
  · exact changed_fine _ _ _ _ _
  · simp
theorem diskRem_fine (d : Dsk) (i k : Int) : (diskRem d i k).1.files.all okFil = true ∧ (diskRem d i k).1.files.length ≤ 12 ∧ (diskRem d i k).1.dirs.length ≤ 20 ∧ ∀ x ∈ (diskRem d i k).1.dirs, x.names = [] := by
  unfold diskRem
  split
  · exact changed_fine _ _ _ _ _
  · simp
theorem endD_bare : ∀ (ds : List Dr) (k : Nat), (∀ x ∈ ds, x.names = []) → endD k ds = k + 3 * ds.length
  | [], k, _ => by simp [endD]
  | d :: r, k, h => by
    have h1 := endD_bare r (nextD k d) (fun x hx => h x (by simp [hx]))
    have h2 := h d (by simp)
    have e : endD k (d :: r) = endD (nextD k d) r := rfl
    rw [e, h1]
    unfold nextD
    rw [h2]
    simp; omega
theorem dsk_end {fs : List Fil} {ds : List Dr} (h1 : fs.all okFil = true) (h2 : fs.length ≤ 12) (h3 : ds.length ≤ 20) (h4 : ∀ x ∈ ds, x.names = []) (k : Nat) : endD (endF k fs) ds ≤ k + 1000 := by
  have e1 := endF_le k fs
  have e2 := endD_bare ds (endF k fs) h4
  have e3 := bodies_sum h1
  omega
end Go.Proofs.Ytcphhmpedejkcaa
