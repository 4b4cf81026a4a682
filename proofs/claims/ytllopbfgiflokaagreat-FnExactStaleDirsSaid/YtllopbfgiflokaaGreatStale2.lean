/- The contract of the program's StaleDirs. -/
import Derived.Test.YtllopbfgiflokaaGreatStale
import Derived.Test.YtllopbfgiflokaaGreatTrees
import Derived.WalkSpells
set_option linter.unusedVariables false
set_option linter.unusedSimpArgs false
namespace Go.Proofs.YtllopbfgiflokaaGreat
open Go.RowKit Go.Proofs.YtllopbfgiflokaaGreat.Nm
open Go.Sort (grow)

theorem stale_no {T : TypeId} {xs : List Int} {w w' : World} (h : xs = []) (hb : Below w.heap.size w w') : NewInts T xs w (.returned (.slice none 0 0)) w' := by
  subst h; exact ⟨_, rfl, World.ownsRow_nil _ _ _ _, hb⟩
theorem stale_first2 {w wr W w7 : World} {cs ds : Array Value} {T U : TypeId} {row : Option Nat} (h : Boxed2 w cs T ds U wr) (hb : Below wr.heap.size wr W) (hg : W.grownBy w7 row) (hr : ∀ g, row = some g → w.heap.size + 2 ≤ g) : Boxed2 w cs T ds U w7 :=
  (h.step hb).grown hg (h.step hb).size (fun g e => by simpa using hr g e)
theorem stale_one {w : World} {x : Value} {t : TypeId} {b : Nat} (hb : b = w.heap.size) : ∀ j u, [x][j]? = some u → (w.alloc (.cells #[x] t)).cell? ((⟨b, 0, none⟩ : Addr).add j) = some u := by
  subst hb
  intro j u h
  cases j with
  | zero => simp at h; subst h; simp [go_sem, Addr.add]
  | succ n => simp at h
theorem listDir_len (fs : List Fil) (root : Int) (p : Bs) : (listDir fs root p).length ≤ fs.length := by
  unfold listDir
  split
  · exact Nat.le_trans (sortUp_len _) (entries_len _ _ _)
  · simp
/-- Whether a directory tells what is not so. -/
def isStale (t : List Fil) (dirs : List Dr) (x : Dr) : Bool := decide (x.stamp = stampIn dirs (dplace x)) && !decide (x.names = listDir t x.root x.pack)
theorem stale_snocB (t : List Fil) (dirs l : List Dr) (k : Nat) (h : k < l.length) : staleGo t dirs (l.take (k + 1)) 0 = staleGo t dirs (l.take k) 0 ++ (if isStale t dirs l[k] then [(k : Int)] else []) := by
  rw [staleGo_snoc t dirs l k h]
  congr 1
  unfold isStale
  by_cases h1 : l[k].stamp = stampIn dirs (dplace l[k]) <;> by_cases h2 : l[k].names = listDir t l[k].root l[k].pack <;> simp [h1, h2]
theorem stale_at {f : Fnd} {d : Dsk} (h1 : okFnd f = true) (h2 : okDisk d = true) : stale f d = staleGo d.files d.dirs (f.dirs.take f.dirs.length) 0 := by
  unfold stale; rw [h1, h2, List.take_length]; rfl
theorem stale_none {f : Fnd} {d : Dsk} (h : (okFnd f && okDisk d) = false) : stale f d = [] := by unfold stale; rw [h]; rfl
theorem okFnd_dirs {f : Fnd} (h : okFnd f = true) : f.dirs.length ≤ 20 ∧ ∀ d ∈ f.dirs, okDr 200 12 d = true := by
  unfold okFnd at h
  simp only [Bool.and_eq_true] at h
  exact ⟨okDirs_len h.2, fun d hd => okDirs_at h.2 hd⟩
theorem stale_len (f : Fnd) (d : Dsk) : (stale f d).length ≤ 20 := by
  unfold stale
  split
  · rename_i h
    simp only [Bool.and_eq_true] at h
    exact Nat.le_trans (staleGo_len _ _ _ _) (okFnd_dirs h.1).1
  · simp
theorem okDisk_tree {d : Dsk} (h : okDisk d = true) : okTree d.files = true := by
  unfold okDisk at h; simp only [Bool.and_eq_true] at h; exact h.2

set_option maxRecDepth 100000 in
set_option maxHeartbeats 4000000 in
theorem impl_StaleDirs (u : Value) (ds : List Dr) (f h : Int) (v : Value) (fs : List Fil) (c : Int) (u2 : Value) (dd : List Dr) (D : Nat → Prop) (w : World) (hr : DirsIn w D u ds) (hz : ShortD 2000000 ds) (hk : DskIn w D v fs u2 dd) (hkz : ShortK 2000000 fs dd) :
    Calls Tryz.prog 12 #[.agg #[u, .int .i64 f, .int .i64 h], .agg #[v, .int .i64 c, u2]] w (NewInts 3 (stale ⟨ds, f, h⟩ ⟨fs, c, dd⟩) w) := by
  obtain ⟨i0, hi, hz0, hz1, hz2⟩ := info_parts infoI
  have Hi := Lib.hid hi
  have Hz0 := Lib.hid hz0
  have Hz1 := Lib.hid hz1
  have Hz2 := Lib.hid hz2
  have Hr := Lib.hid hr
  have Hz := Lib.hid hz
  have Hd := Lib.hid hk
  have Hdz := Lib.hid hkz
  obtain ⟨ua, uc, rfl, hul, hum⟩ := hr.len
  obtain ⟨⟨va, vc, rfl, hvl, hvm⟩, ⟨wa, wc, rfl, hwl, hwm⟩⟩ := hk.len
  unfold maxLen at hum
  clear hr hz hk hkz hi hz0 hz1 hz2 hvl hvm hwl hwm
  have HB0 := Lib.hid (Boxed2.start w #[.slice ua ds.length uc, .int .i64 f, .int .i64 h] 36 #[.slice va fs.length vc, .int .i64 c, .slice wa dd.length wc] 42)
  cases h1 : okFnd ⟨ds, f, h⟩
  · have H1 := Lib.hid h1
    have Hs := Lib.hid (stale_none (f := ⟨ds, f, h⟩) (d := ⟨fs, c, dd⟩) (by rw [h1]; rfl))
    clear h1
    go_enter Tryz.func12, Tryz.ntmps12
    go_wp2_with (go_at_call 29; refine (impl_ValidFinder _ ds f h D _ (Hr.out.below (by (repeat (with_reducible first | exact Below.refl _ _ | assumption | refine ba ?_ _ | refine bd ?_ | refine bdN ?_ _ | refine bs ?_ (by first | exact Nat.le_refl _ | (dsimp only; omega) | (simp; done)) _ | refine bt ?_ (by assumption))))) Hz.out).mono ?_; rintro _ w5 ⟨rfl, hb5⟩; rw [H1.out])
    go_ret
    exact stale_no Hs.out (by (repeat (with_reducible first | exact Below.refl _ _ | assumption | refine ba ?_ _ | refine bd ?_ | refine bdN ?_ _ | refine bs ?_ (by first | exact Nat.le_refl _ | (dsimp only; omega) | (simp; done)) _ | refine bt ?_ (by assumption))))
  cases h2 : okDisk ⟨fs, c, dd⟩
  · have H1 := Lib.hid h1
    have H2 := Lib.hid h2
    have Hs := Lib.hid (stale_none (f := ⟨ds, f, h⟩) (d := ⟨fs, c, dd⟩) (by rw [h2, Bool.and_false]))
    clear h1 h2
    go_enter Tryz.func12, Tryz.ntmps12
    go_wp2_with (first
      | (go_at_call 29; refine (impl_ValidFinder _ ds f h D _ (Hr.out.below (by (repeat (with_reducible first | exact Below.refl _ _ | assumption | refine ba ?_ _ | refine bd ?_ | refine bdN ?_ _ | refine bs ?_ (by first | exact Nat.le_refl _ | (dsimp only; omega) | (simp; done)) _ | refine bt ?_ (by assumption))))) Hz.out).mono ?_; rintro _ w5 ⟨rfl, hb5⟩; rw [H1.out]; have Hx5 := Lib.hid (HB0.out.step hb5); have x0 : w5.cell? ⟨w.heap.size + 1, 0, none⟩ = some (.slice va fs.length vc) := Hx5.out.cell 0; have x1 : w5.cell? ⟨w.heap.size + 1, 1, none⟩ = some (.int .i64 c) := Hx5.out.cell 1; have x2 : w5.cell? ⟨w.heap.size + 1, 2, none⟩ = some (.slice wa dd.length wc) := Hx5.out.cell 2; have xs := Hx5.out.lt)
      | (go_at_call 30; refine (impl_ValidDisk _ fs c _ dd D _ (Hd.out.below (by have := Hx5.out.below; (repeat (with_reducible first | exact Below.refl _ _ | assumption | refine ba ?_ _ | refine bd ?_ | refine bdN ?_ _ | refine bs ?_ (by first | exact Nat.le_refl _ | (dsimp only; omega) | (simp; done)) _ | refine bt ?_ (by assumption))))) Hdz.out).mono ?_; rintro _ w6 ⟨rfl, hb6⟩; rw [H2.out]))
    go_ret
    exact stale_no Hs.out (bt Hx5.out.below hb6)
  have H1 := Lib.hid h1
  have H2 := Lib.hid h2
  have h20 := (okFnd_dirs h1).1
  dsimp only at h20
  have Hdr := Lib.hid (okFnd_dirs h1).2
  have Htr := Lib.hid (okDisk_tree h2)
  have h12 : fs.length ≤ 12 := (okTree_all (okDisk_tree h2)).2.2
  have Hst := Lib.hid (stale_at h1 h2)
  dsimp only at Hst Htr
  clear h1 h2
  go_enter Tryz.func12, Tryz.ntmps12
  go_wp2_with (first
    | (go_at_call 29; refine (impl_ValidFinder _ ds f h D _ (Hr.out.below (by (repeat (with_reducible first | exact Below.refl _ _ | assumption | refine ba ?_ _ | refine bd ?_ | refine bdN ?_ _ | refine bs ?_ (by first | exact Nat.le_refl _ | (dsimp only; omega) | (simp; done)) _ | refine bt ?_ (by assumption))))) Hz.out).mono ?_; rintro _ w5 ⟨rfl, hb5⟩; rw [H1.out]; have Hx5 := Lib.hid (HB0.out.step hb5); have x0 : w5.cell? ⟨w.heap.size + 1, 0, none⟩ = some (.slice va fs.length vc) := Hx5.out.cell 0; have x1 : w5.cell? ⟨w.heap.size + 1, 1, none⟩ = some (.int .i64 c) := Hx5.out.cell 1; have x2 : w5.cell? ⟨w.heap.size + 1, 2, none⟩ = some (.slice wa dd.length wc) := Hx5.out.cell 2; have xs := Hx5.out.lt)
    | (go_at_call 30; refine (impl_ValidDisk _ fs c _ dd D _ (Hd.out.below (by have := Hx5.out.below; (repeat (with_reducible first | exact Below.refl _ _ | assumption | refine ba ?_ _ | refine bd ?_ | refine bdN ?_ _ | refine bs ?_ (by first | exact Nat.le_refl _ | (dsimp only; omega) | (simp; done)) _ | refine bt ?_ (by assumption))))) Hdz.out).mono ?_; rintro _ w6 ⟨rfl, hb6⟩; rw [H2.out]; have Hx6 := Lib.hid (Hx5.out.step hb6); have y0 : w6.cell? ⟨w.heap.size, 0, none⟩ = some (.slice ua ds.length uc) := Hx6.out.one.cell 0; clear x0 x1 x2 xs hb5 hb6))
  clear y0
  go_loopw [5, 19] (fun dv kv wr => ∃ (k : Nat), k ≤ ds.length ∧ kv = .int .i64 k ∧ wr.ownsRow (w.heap.size + 2) 3 1 dv (staleGo fs dd (ds.take k) 0).length ((staleGo fs dd (ds.take k) 0).map iv) ∧ Boxed2 w #[.slice ua ds.length uc, .int .i64 f, .int .i64 h] 36 #[.slice va fs.length vc, .int .i64 c, .slice wa dd.length wc] 42 wr) (fun _ kv _ => ds.length - (intOf kv).toNat)
  case atStart => exact ⟨0, by omega, rfl, World.ownsRow_nil _ _ _ _, Hx6.out⟩
  case round =>
    obtain ⟨k, hk, rfl, hown, hbx⟩ := hrel
    have hbel := hbx.below
    have hsz := hbx.lt
    have Hown := Lib.hid hown
    have Hbx := Lib.hid hbx
    clear hown hbx Hx6 Hx5
    by_cases hlt : k < ds.length
    · have Hsn := Lib.hid (stale_snocB fs dd ds k hlt)
      have hll : (staleGo fs dd (ds.take k) 0).length ≤ 20 := Nat.le_trans (staleGo_len _ _ _ _) (by rw [List.length_take]; omega)
      obtain ⟨b, off, cap, nv, e, hD, hb, hnm, c0, c1, c2, c3⟩ := (Hr.out.below hbel).at_ hlt
      simp only [Value.slice.injEq] at e
      obtain ⟨rfl, _, rfl⟩ := e
      have hdr := Hdr.out _ (List.getElem_mem hlt)
      have hzk := Hz.out _ (List.getElem_mem hlt)
      have hk1 : (k : Int) < (ds.length : Int) := by omega
      have hk0 : (0 : Int) ≤ (k : Int) := by omega
      obtain ⟨x, hx⟩ : ∃ x, x = ds[k] := ⟨_, rfl⟩
      rw [← hx] at c0 c1 c2 hdr hzk Hsn hnm
      clear hx
      obtain ⟨dr, dp, dst, dn⟩ := x
      dsimp only at c0 c1 c2 c3 hzk hnm
      have hpl : dp.length ≤ 2000000 := hzk.1
      have hdn : dn.length ≤ 12 := by unfold okDr at hdr; simp only [Bool.and_eq_true, decide_eq_true_eq] at hdr; exact hdr.2
      have Hnm := Lib.hid hnm
      obtain ⟨na, nc, rfl, _, _⟩ := hnm.len
      have Hbel := Lib.hid hbel
      clear hnm hdr hzk hbel
      obtain ⟨sb, hsb⟩ : ∃ b, b = decide (dst = stampIn dd (dr, dp)) := ⟨_, rfl⟩
      obtain ⟨ln, hln⟩ : ∃ l, l = listDir fs dr dp := ⟨_, rfl⟩
      obtain ⟨eb, heb⟩ : ∃ b, b = decide (dn = ln) := ⟨_, rfl⟩
      have hll2 : ln.length ≤ 12 := by rw [hln]; exact Nat.le_trans (listDir_len _ _ _) h12
      have Hsb := Lib.hid hsb
      have Hln := Lib.hid hln
      have Heb := Lib.hid heb
      have Hiss := Lib.hid (show isStale fs dd ⟨dr, dp, dst, dn⟩ = (sb && !eb) by rw [hsb, heb, hln]; rfl)
      rw [Hiss.out] at Hsn
      clear hsb hln heb Hiss
      generalize staleGo fs dd (ds.take k) 0 = L at *
      obtain ⟨W1, hW1⟩ : ∃ W1, W1 = wr.alloc (.cells #[.int .i64 dr, .string (mk dp), .int .i64 dst, .slice na dn.length nc] 66) := ⟨_, rfl⟩
      have HbW := Lib.hid (show Below wr.heap.size wr W1 by rw [hW1]; (repeat (with_reducible first | exact Below.refl _ _ | assumption | refine ba ?_ _ | refine bd ?_ | refine bdN ?_ _ | refine bs ?_ (by first | exact Nat.le_refl _ | (dsimp only; omega) | (simp; done)) _ | refine bt ?_ (by assumption))))
      have X1 := Lib.hid (show BoxC W1 wr.heap.size #[.int .i64 dr, .string (mk dp), .int .i64 dst, .slice na dn.length nc] by rw [hW1]; exact BoxC.start wr _ _)
      have HWe := Lib.hid hW1
      have hW1s : W1.heap.size = wr.heap.size + 1 := by rw [hW1]; simp
      clear hW1
      have Hk := Lib.hid (fun (w' : World) (hB : Below W1.heap.size W1 w') => (have h0 := X1.out.below hB; have h1 := (Hbx.out.step (bt HbW.out hB)); ⟨h0.2 0, h0.2 1, h0.2 2, h0.2 3, h1.cell 0, h1.cell 1, h1.cell 2⟩ : w'.cell? ⟨wr.heap.size, 0, none⟩ = some (.int .i64 dr) ∧ w'.cell? ⟨wr.heap.size, 1, none⟩ = some (.string (mk dp)) ∧ w'.cell? ⟨wr.heap.size, 2, none⟩ = some (.int .i64 dst) ∧ w'.cell? ⟨wr.heap.size, 3, none⟩ = some (.slice na dn.length nc) ∧ w'.cell? ⟨w.heap.size + 1, 0, none⟩ = some (.slice va fs.length vc) ∧ w'.cell? ⟨w.heap.size + 1, 1, none⟩ = some (.int .i64 c) ∧ w'.cell? ⟨w.heap.size + 1, 2, none⟩ = some (.slice wa dd.length wc)))
      go_upto_region 7 with fail
      rw [← HWe.out]
      clear c0 c1 c2 c3
      cases sb
      · have Hs2 := Lib.hid (show staleGo fs dd (ds.take (k + 1)) 0 = L by rw [Hsn.out]; simp)
        obtain ⟨e0, e1, e2, e3, d0, d1, d2⟩ := Hk.out W1 (Below.refl _ _)
        have k0 := cell_regrown e0
        have k1 := cell_regrown e1
        have k2 := cell_regrown e2
        have k3 := cell_regrown e3
        have j0 := cell_regrown d0
        have j1 := cell_regrown d1
        have j2 := cell_regrown d2
        have cB : ∀ d os, Calls Tryz.prog 51 #[.agg #[.int .i64 dr, .string (mk dp), .int .i64 dst, .slice na dn.length nc], .agg #[.slice va fs.length vc, .int .i64 c, .slice wa dd.length wc]] (grow (redrawn W1 d) os) fun e w'' => e = .returned (.bool false) ∧ ∃ p : Regrown, w'' = grow (redrawn W1 p.d) p.os := fun d os =>
          Calls.regrown_of (by rw [Hsb.out]; exact impl_isBelieved dr dst dp _ _ c _ dd D _ (Hd.out.2.below (bt Hbel.out (bt HbW.out (below_regrown W1 d os)))))
        clear e0 e1 e2 e3 d0 d1 d2
        refine wp_region_quiet_below (by kernel_rfl) (by kernel_rfl) ?_
        repeat (go_big_quiet_step (exact cB _ _))
        refine wpQuiet_nil ?_
        intro _ hw'
        obtain ⟨⟨dq, osq⟩, hw2⟩ := hw'
        obtain ⟨W2, hW2⟩ : ∃ W2, W2 = grow (redrawn W1 dq) osq := ⟨_, rfl⟩
        rw [hw2, ← hW2]
        have Hb7 := Lib.hid (show Below wr.heap.size wr W2 by rw [hW2]; exact bt HbW.out (below_regrown W1 dq osq))
        clear hw2 hW2 cB k0 k1 k2 k3 j0 j1 j2
        go_wp2_with fail
        go_roundw
        case rel => exact ⟨k + 1, by omega, by go_num, by rw [Hs2.out]; exact owns_below Hown.out Hb7.out, Hbx.out.step Hb7.out⟩
        case measure => simp [intOf]; omega
      · obtain ⟨e0, e1, e2, e3, d0, d1, d2⟩ := Hk.out W1 (Below.refl _ _)
        cases eb
        · have Hs2 := Lib.hid (show staleGo fs dd (ds.take (k + 1)) 0 = L ++ [(k : Int)] by rw [Hsn.out]; simp)
          go_region_held3 (fun w' => w'.cell? ⟨wr.heap.size, 0, none⟩ = some (.int .i64 dr) ∧ w'.cell? ⟨wr.heap.size, 1, none⟩ = some (.string (mk dp)) ∧ w'.cell? ⟨wr.heap.size, 2, none⟩ = some (.int .i64 dst) ∧ w'.cell? ⟨wr.heap.size, 3, none⟩ = some (.slice na dn.length nc) ∧ w'.cell? ⟨w.heap.size + 1, 0, none⟩ = some (.slice va fs.length vc) ∧ w'.cell? ⟨w.heap.size + 1, 1, none⟩ = some (.int .i64 c) ∧ w'.cell? ⟨w.heap.size + 1, 2, none⟩ = some (.slice wa dd.length wc))
            (first | (refine Hk.out _ ?_; (repeat (with_reducible first | exact Below.refl _ _ | assumption | refine ba ?_ _ | refine bd ?_ | refine bdN ?_ _ | refine bs ?_ (by first | exact Nat.le_refl _ | (dsimp only; omega) | (simp; done)) _ | refine bt ?_ (by assumption))); done))
            (first
              | (go_at_call 51; refine (impl_isBelieved dr dst dp _ _ c _ dd D _ (Hd.out.2.below (bt Hbel.out (bt HbW.out (show Below W1.heap.size W1 _ by (repeat (with_reducible first | exact Below.refl _ _ | assumption | refine ba ?_ _ | refine bd ?_ | refine bdN ?_ _ | refine bs ?_ (by first | exact Nat.le_refl _ | (dsimp only; omega) | (simp; done)) _ | refine bt ?_ (by assumption)))))))).mono ?_; rintro _ wA ⟨rfl, hbA⟩; rw [← Hsb.out]; have hBA : Below W1.heap.size W1 wA := (by (repeat (with_reducible first | exact Below.refl _ _ | assumption | refine ba ?_ _ | refine bd ?_ | refine bdN ?_ _ | refine bs ?_ (by first | exact Nat.le_refl _ | (dsimp only; omega) | (simp; done)) _ | refine bt ?_ (by assumption)))))
              | (go_at_call 32; refine (impl_ListDir _ fs D dr dp _ (Hd.out.1.below (bt Hbel.out (bt HbW.out (show Below W1.heap.size W1 _ by (repeat (with_reducible first | exact Below.refl _ _ | assumption | refine ba ?_ _ | refine bd ?_ | refine bdN ?_ _ | refine bs ?_ (by first | exact Nat.le_refl _ | (dsimp only; omega) | (simp; done)) _ | refine bt ?_ (by assumption))))))) Hdz.out.1 hpl).mono ?_; rintro _ wB ⟨vB, rfl, hownB, hbB⟩; rw [← Hln.out] at hownB; have hBB : Below W1.heap.size W1 wB := (by (repeat (with_reducible first | exact Below.refl _ _ | assumption | refine ba ?_ _ | refine bd ?_ | refine bdN ?_ _ | refine bs ?_ (by first | exact Nat.le_refl _ | (dsimp only; omega) | (simp; done)) _ | refine bt ?_ (by assumption)))); have SB := Lib.hid (Reads.of_owns hownB); obtain ⟨la, lc, rfl⟩ := owns_shape hownB; clear hownB)
              | (go_at_call 52; refine (slices_EqualX _ _ dn ln D _ (Hnm.out.below (bt HbW.out (show Below W1.heap.size W1 _ by (repeat (with_reducible first | exact Below.refl _ _ | assumption | refine ba ?_ _ | refine bd ?_ | refine bdN ?_ _ | refine bs ?_ (by first | exact Nat.le_refl _ | (dsimp only; omega) | (simp; done)) _ | refine bt ?_ (by assumption)))))) (SB.out.below (by (repeat (with_reducible first | exact Below.refl _ _ | assumption | refine ba ?_ _ | refine bd ?_ | refine bdN ?_ _ | refine bs ?_ (by first | exact Nat.le_refl _ | (dsimp only; omega) | (simp; done)) _ | refine bt ?_ (by assumption))))) (by omega) (by omega)).mono ?_; rintro _ w8 ⟨rfl, hbC⟩; rw [← Heb.out]; have hBC : Below W1.heap.size W1 w8 := (by (repeat (with_reducible first | exact Below.refl _ _ | assumption | refine ba ?_ _ | refine bd ?_ | refine bdN ?_ _ | refine bs ?_ (by first | exact Nat.le_refl _ | (dsimp only; omega) | (simp; done)) _ | refine bt ?_ (by assumption))))))
          have Hb6 := Lib.hid (show Below wr.heap.size wr w8 from bt HbW.out hBC)
          have hz6 := Hb6.out.size
          clear e0 e1 e2 e3 d0 d1 d2 hbA hbB hbC hBA hBB hBC
          go_wp2_with (at_builtin; refine wpList_append_own _ rfl _ _ 32 rfl (w.heap.size + 2) 3 i0 (.int .i64 0) 1 8 Tryz.underlying32 Hi.out Hz0.out Hz1.out Hz2.out rfl (by decide) _ L.length _ rfl ((owns_below Hown.out Hb6.out).alloc _) ⟨_, 0, none⟩ 1 1 [.int .i64 k] rfl rfl (stale_one (by first | rfl | simp)) (fun x hx => by simp at hx; subst hx; rfl) (by unfold maxLen; omega) (by omega) (by simp; omega) ?_; intro v9 w9 hown9 hgrow9 hnil9)
          have Hx9 := Lib.hid (stale_first2 Hbx.out (ba Hb6.out _) hgrow9 (fun g hg => (Hown.out.lt g hg).1))
          have Hown9 := Lib.hid (show w9.ownsRow (w.heap.size + 2) 3 1 v9 (L ++ [(k : Int)]).length ((L ++ [(k : Int)]).map iv) by rw [List.length_append, List.map_append]; exact hown9)
          clear hown9 hgrow9 hnil9
          go_roundw
          case rel => exact ⟨k + 1, by omega, by go_num, by rw [Hs2.out]; exact Hown9.out, Hx9.out⟩
          case measure => simp [intOf]; omega
        · have Hs2 := Lib.hid (show staleGo fs dd (ds.take (k + 1)) 0 = L by rw [Hsn.out]; simp)
          go_region_held3 (fun w' => w'.cell? ⟨wr.heap.size, 0, none⟩ = some (.int .i64 dr) ∧ w'.cell? ⟨wr.heap.size, 1, none⟩ = some (.string (mk dp)) ∧ w'.cell? ⟨wr.heap.size, 2, none⟩ = some (.int .i64 dst) ∧ w'.cell? ⟨wr.heap.size, 3, none⟩ = some (.slice na dn.length nc) ∧ w'.cell? ⟨w.heap.size + 1, 0, none⟩ = some (.slice va fs.length vc) ∧ w'.cell? ⟨w.heap.size + 1, 1, none⟩ = some (.int .i64 c) ∧ w'.cell? ⟨w.heap.size + 1, 2, none⟩ = some (.slice wa dd.length wc))
            (first | (refine Hk.out _ ?_; (repeat (with_reducible first | exact Below.refl _ _ | assumption | refine ba ?_ _ | refine bd ?_ | refine bdN ?_ _ | refine bs ?_ (by first | exact Nat.le_refl _ | (dsimp only; omega) | (simp; done)) _ | refine bt ?_ (by assumption))); done))
            (first
              | (go_at_call 51; refine (impl_isBelieved dr dst dp _ _ c _ dd D _ (Hd.out.2.below (bt Hbel.out (bt HbW.out (show Below W1.heap.size W1 _ by (repeat (with_reducible first | exact Below.refl _ _ | assumption | refine ba ?_ _ | refine bd ?_ | refine bdN ?_ _ | refine bs ?_ (by first | exact Nat.le_refl _ | (dsimp only; omega) | (simp; done)) _ | refine bt ?_ (by assumption)))))))).mono ?_; rintro _ wA ⟨rfl, hbA⟩; rw [← Hsb.out]; have hBA : Below W1.heap.size W1 wA := (by (repeat (with_reducible first | exact Below.refl _ _ | assumption | refine ba ?_ _ | refine bd ?_ | refine bdN ?_ _ | refine bs ?_ (by first | exact Nat.le_refl _ | (dsimp only; omega) | (simp; done)) _ | refine bt ?_ (by assumption)))))
              | (go_at_call 32; refine (impl_ListDir _ fs D dr dp _ (Hd.out.1.below (bt Hbel.out (bt HbW.out (show Below W1.heap.size W1 _ by (repeat (with_reducible first | exact Below.refl _ _ | assumption | refine ba ?_ _ | refine bd ?_ | refine bdN ?_ _ | refine bs ?_ (by first | exact Nat.le_refl _ | (dsimp only; omega) | (simp; done)) _ | refine bt ?_ (by assumption))))))) Hdz.out.1 hpl).mono ?_; rintro _ wB ⟨vB, rfl, hownB, hbB⟩; rw [← Hln.out] at hownB; have hBB : Below W1.heap.size W1 wB := (by (repeat (with_reducible first | exact Below.refl _ _ | assumption | refine ba ?_ _ | refine bd ?_ | refine bdN ?_ _ | refine bs ?_ (by first | exact Nat.le_refl _ | (dsimp only; omega) | (simp; done)) _ | refine bt ?_ (by assumption)))); have SB := Lib.hid (Reads.of_owns hownB); obtain ⟨la, lc, rfl⟩ := owns_shape hownB; clear hownB)
              | (go_at_call 52; refine (slices_EqualX _ _ dn ln D _ (Hnm.out.below (bt HbW.out (show Below W1.heap.size W1 _ by (repeat (with_reducible first | exact Below.refl _ _ | assumption | refine ba ?_ _ | refine bd ?_ | refine bdN ?_ _ | refine bs ?_ (by first | exact Nat.le_refl _ | (dsimp only; omega) | (simp; done)) _ | refine bt ?_ (by assumption)))))) (SB.out.below (by (repeat (with_reducible first | exact Below.refl _ _ | assumption | refine ba ?_ _ | refine bd ?_ | refine bdN ?_ _ | refine bs ?_ (by first | exact Nat.le_refl _ | (dsimp only; omega) | (simp; done)) _ | refine bt ?_ (by assumption))))) (by omega) (by omega)).mono ?_; rintro _ w8 ⟨rfl, hbC⟩; rw [← Heb.out]; have hBC : Below W1.heap.size W1 w8 := (by (repeat (with_reducible first | exact Below.refl _ _ | assumption | refine ba ?_ _ | refine bd ?_ | refine bdN ?_ _ | refine bs ?_ (by first | exact Nat.le_refl _ | (dsimp only; omega) | (simp; done)) _ | refine bt ?_ (by assumption))))))
          have Hb6 := Lib.hid (show Below wr.heap.size wr w8 from bt HbW.out hBC)
          clear e0 e1 e2 e3 d0 d1 d2 hbA hbB hbC hBA hBB hBC
          go_wp2_with fail
          go_roundw
          case rel => exact ⟨k + 1, by omega, by go_num, by rw [Hs2.out]; exact owns_below Hown.out Hb6.out, Hbx.out.step Hb6.out⟩
          case measure => simp [intOf]; omega
    · obtain rfl : k = ds.length := by omega
      go_wp2_with fail
      go_ret
      exact ⟨_, rfl, owns_mono (by rw [Hst.out]; exact Hown.out) (by omega), hbel⟩
end Go.Proofs.YtllopbfgiflokaaGreat
