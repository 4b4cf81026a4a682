/- Contracts of the functions that list a directory. -/
import Derived.Test.YtllopbfgiflokaaGreatLists
import Derived.Test.YtllopbfgiflokaaGreatPlainT
set_option linter.unusedVariables false
set_option linter.unusedSimpArgs false
namespace Go.Proofs.YtllopbfgiflokaaGreat
open Go.RowKit Go.Proofs.YtllopbfgiflokaaGreat.Nm

theorem ret_slash {x y : Bs} (h : x ++ [47] = y) : Ending.returned (.string (mk x ++ ⟨#[47]⟩)) = .returned (.string (mk y)) := by
  rw [← h]
  show Ending.returned (.string (mk x ++ mk [47])) = _
  rw [mk_append]
set_option maxRecDepth 100000 in
set_option maxHeartbeats 1000000 in
theorem impl_entryOf (r st : Int) (fp n p : Bs) (i : Bool) (bv : Value) (body : List Stm) (w : World) (hfp : fp.length ≤ 2000000) (hp : p.length ≤ 2000000) (hb : fp = p ∨ (vn fp = true ∧ under fp p = true)) (hv : vpk p = true) :
    Calls Tryz.prog 75 #[.agg #[.int .i64 r, .string (mk fp), .string (mk n), .bool i, .int .i64 st, bv], .string (mk p)] w
      fun e w' => e = .returned (.string (mk (entryAt p ⟨r, fp, n, i, st, body⟩))) ∧ Below w.heap.size w w' := by
  by_cases he : fp = p
  · subst he
    have Hv := Lib.hid (show entryAt fp ⟨r, fp, n, i, st, body⟩ = if i then [42] else n from if_pos rfl)
    clear hv hb
    cases i <;>
    · go_enter Tryz.func75, Tryz.ntmps75
      go_wp2_with fail
      go_ret
      rw [Hv.out]
      exact ⟨rfl, by (repeat (with_reducible first | exact Below.refl _ _ | assumption | refine ba ?_ _ | refine bd ?_ | refine bdN ?_ _ | refine bs ?_ (by first | exact Nat.le_refl _ | (dsimp only; omega) | (simp; done)) _ | refine bt ?_ (by assumption)))⟩
  · obtain ⟨h1, h2⟩ := hb.resolve_left he
    have Hv := Lib.hid (show firstBelow fp p ++ [47] = entryAt p ⟨r, fp, n, i, st, body⟩ from (if_neg he).symm)
    have hf := first_of h1 hv h2 he
    obtain ⟨hlt, hget⟩ := List.getElem?_eq_some_iff.1 hf
    have hne : (fp == p) = false := by simpa using he
    have Hget := Lib.hid hget
    have hfl : (firstBelow fp p).length ≤ 3 := by
      have hm := List.getElem_mem hlt
      rw [hget, parts_of h1] at hm
      exact (vp_len ((vps_iff.1 (show vps (split fp) = true from h1)).2 _ hm)).2
    clear hb h1 h2 hf hget he hv
    go_enter Tryz.func75, Tryz.ntmps75
    go_wp2_with fail
    refine (impl_PartsOf fp _ (by omega)).mono ?_
    rintro _ w1 ⟨v1, rfl, hown1, hb1⟩
    obtain ⟨b1, o1, c1, rfl, hl1, hm1, hlt1, hc1⟩ := Reads.some (Reads.of_owns hown1) (by omega)
    have hcell1 := hc1 _ hlt
    rw [Hget.out] at hcell1
    have Hcell1 := Lib.hid hcell1
    have hmm : (parts fp).length ≤ 9223372036854775807 := by unfold maxLen at hm1; omega
    clear hown1 hc1 hcell1
    go_wp2_with fail
    refine (impl_PartsOf p _ (by omega)).mono ?_
    rintro _ w2 ⟨v2, rfl, hown2, hb2⟩
    obtain ⟨a2, c2, rfl⟩ := owns_shape hown2
    have hcell2 := (hb2.cell (p := ⟨b1, o1 + (parts p).length, none⟩) hlt1).trans Hcell1.out
    clear hown2
    go_wp2_with fail
    go_ret
    exact ⟨ret_slash Hv.out, by (repeat (with_reducible first | exact Below.refl _ _ | assumption | refine ba ?_ _ | refine bd ?_ | refine bdN ?_ _ | refine bs ?_ (by first | exact Nat.le_refl _ | (dsimp only; omega) | (simp; done)) _ | refine bt ?_ (by assumption)))⟩

theorem fils_of_row {w : World} {B : Nat} {v : Value} {ps : List (Fil × Value)} {D : Nat → Prop} {fs : List Fil} {T : TypeId} (h : w.ownsRow B T 6 v ps.length (ps.flatMap filCells)) (hb : ∀ p ∈ ps, StmsIn w D p.2 p.1.body) (he : ps.map (·.1) = fs) : FilsIn w (fun _ => True) v fs := by
  rw [← he]
  exact FilsIn.of_owns h (fun _ _ => trivial) (fun p hp => (hb p hp).mono (fun _ _ _ => trivial))
theorem below_mem {fs : List Fil} {root : Int} {p : Bs} (hall : fs.all okFil = true) (hp : vpk p = true) {f : Fil} (hf : f ∈ belowFils fs root p) : f.pack = p ∨ (vn f.pack = true ∧ under f.pack p = true) := by
  obtain ⟨h1, h2⟩ := List.mem_filter.1 hf
  simp only [isBelow, Bool.and_eq_true, Bool.or_eq_true, decide_eq_true_eq, isUnder] at h2
  rcases h2.2 with h | h
  · exact .inl h
  · exact .inr ⟨h.1.1, h.2⟩
theorem shortT_below {A : Nat} {fs : List Fil} {root : Int} {p : Bs} (h : ShortT A fs) : ShortT A (belowFils fs root p) := fun f hf => h f (List.mem_filter.1 hf).1
theorem entryAt_len {A : Nat} {fs : List Fil} {root : Int} {p : Bs} (h : ShortT A fs) : True := trivial
set_option maxRecDepth 100000 in
set_option maxHeartbeats 2000000 in
theorem impl_ListDir (v : Value) (fs : List Fil) (D : Nat → Prop) (root : Int) (p : Bs) (w : World) (hr : FilsIn w D v fs) (hz : ShortT 2000000 fs) (hp : p.length ≤ 2000000) :
    Calls Tryz.prog 32 #[.agg #[v], .int .i64 root, .string (mk p)] w (NewStrs 9 (listDir fs root p) w) := by
  obtain ⟨i0, hi, hz0, hz1, hz2⟩ := info_parts infoS
  have Hi := Lib.hid hi
  have Hz0 := Lib.hid hz0
  have Hz1 := Lib.hid hz1
  have Hz2 := Lib.hid hz2
  have Hr := Lib.hid hr
  obtain ⟨aa, ca, rfl, hl, hm⟩ := hr.len
  unfold maxLen at hm
  have Hz := Lib.hid hz
  clear hr hz hi hz0 hz1 hz2
  cases hok : placed fs root p
  · have Hok := Lib.hid hok
    have Hno := Lib.hid (listDir_no hok)
    clear hok
    go_enter Tryz.func32, Tryz.ntmps32
    go_wp2_with (go_at_call 73; refine (impl_validPlaceOfDir _ fs D root p _ (Hr.out.below (by (repeat (with_reducible first | exact Below.refl _ _ | assumption | refine ba ?_ _ | refine bd ?_ | refine bdN ?_ _ | refine bs ?_ (by first | exact Nat.le_refl _ | (dsimp only; omega) | (simp; done)) _ | refine bt ?_ (by assumption))))) Hz.out hp).mono ?_; (rintro _ _ ⟨rfl, hb⟩; obtain ⟨hc, hf, hs⟩ := bcell hb); rw [Hok.out])
    go_ret
    exact newStrs_no Hno.out (by (repeat (with_reducible first | exact Below.refl _ _ | assumption | refine ba ?_ _ | refine bd ?_ | refine bdN ?_ _ | refine bs ?_ (by first | exact Nat.le_refl _ | (dsimp only; omega) | (simp; done)) _ | refine bt ?_ (by assumption))))
  · have Hok := Lib.hid hok
    have Hpl := Lib.hid (placed_at hok)
    have h12 := (okTree_all (placed_at hok).1).2.2
    have Hyes := Lib.hid (listDir_at hok)
    have hml := belowFils_len fs root p
    have Hmem := Lib.hid (fun f => below_mem (root := root) (okTree_all (placed_at hok).1).1 (placed_at hok).2 (f := f))
    have HzB := Lib.hid (shortT_below (root := root) (p := p) Hz.out)
    clear hok
    go_enter Tryz.func32, Tryz.ntmps32
    go_wp2_with (first
      | (go_at_call 73; refine (impl_validPlaceOfDir _ fs D root p _ (Hr.out.below (by (repeat (with_reducible first | exact Below.refl _ _ | assumption | refine ba ?_ _ | refine bd ?_ | refine bdN ?_ _ | refine bs ?_ (by first | exact Nat.le_refl _ | (dsimp only; omega) | (simp; done)) _ | refine bt ?_ (by assumption))))) Hz.out hp).mono ?_; rintro _ wj ⟨rfl, hb⟩; have Hx := Lib.hid ((Boxed.start w #[.slice aa fs.length ca] 40).step hb); have hA : wj.cell? ⟨w.heap.size, 0, none⟩ = some (.slice aa fs.length ca) := Hx.out.cell 0; rw [Hok.out])
      | (go_at_call 74; refine (impl_filesBelow _ fs D root p _ (Hr.out.below Hx.out.below) Hz.out hp (by omega)).mono ?_; rintro _ w2 ⟨v2, ps2, rfl, hp2, ho2, hs2, hb2⟩; have Hf2 := Lib.hid (fils_of_row ho2 hs2 hp2); have Hb2 := Lib.hid (bt Hx.out.below hb2); obtain ⟨a2, c2, hv2⟩ := Hf2.out.len; obtain ⟨rfl, hl2, hm2⟩ := hv2; clear ho2 hs2 hp2))
    obtain ⟨bl, hbl⟩ : ∃ bl, bl = belowFils fs root p := ⟨_, rfl⟩
    rw [← hbl] at hml Hyes Hmem HzB Hf2 hl2 ⊢
    clear hbl hA
    have hw2 := Hb2.out.size
    go_loopw [7, 20] (fun nv iv wr => ∃ k : Nat, k ≤ bl.length ∧ iv = .int .i64 k ∧ wr.ownsRow w2.heap.size 9 1 nv k (((bl.take k).map (entryAt p)).map sv) ∧ Below w2.heap.size w2 wr) (fun _ iv _ => bl.length - (intOf iv).toNat)
    case atStart => exact ⟨0, by omega, rfl, World.ownsRow_nil _ _ _ _, Below.refl _ _⟩
    case round =>
      obtain ⟨k, hk, rfl, hown, hbel⟩ := hrel
      have hsz := hbel.size
      have Hown := Lib.hid hown
      have Hbel := Lib.hid hbel
      by_cases hlt : k < bl.length
      · obtain ⟨b, off, cap, bv, e, hD, hb, hbody, c0, c1, c2, c3, c4, c5⟩ := (Hf2.out.below hbel).at_ hlt
        simp only [Value.slice.injEq] at e
        obtain ⟨rfl, _, rfl⟩ := e
        obtain ⟨ba', bc', rfl, hbl, hbm⟩ := hbody.len
        obtain ⟨z1, z2, z3⟩ := HzB.out _ (List.getElem_mem hlt)
        have Hs := Lib.hid (map_take_snoc (entryAt p) bl k hlt)
        have hq := Hmem.out _ (List.getElem_mem hlt)
        obtain ⟨f, hf⟩ : ∃ f, f = bl[k] := ⟨_, rfl⟩
        rw [← hf] at c0 c1 c2 c3 c4 c5 z1 z2 Hs hq
        clear hf hbody hbm hbl z3 hown hbel
        obtain ⟨fr, fp, fn, fi, fst, fb⟩ := f
        dsimp only at c0 c1 c2 c3 c4 c5 z1 z2 hq
        have Hq := Lib.hid hq
        clear hq
        obtain ⟨mn, hmn⟩ : ∃ mn, mn = entryAt p ⟨fr, fp, fn, fi, fst, fb⟩ := ⟨_, rfl⟩
        rw [← hmn] at Hs
        have Hmn := Lib.hid hmn
        clear hmn
        go_wp2_with (first
          | (go_at_call 75; refine (impl_entryOf _ _ _ _ _ _ _ fb _ z1 hp Hq.out Hpl.out.2).mono ?_; rintro _ w6 ⟨rfl, hb⟩; have Hb6 := Lib.hid (show Below wr.heap.size wr w6 by (repeat (with_reducible first | exact Below.refl _ _ | assumption | refine ba ?_ _ | refine bd ?_ | refine bdN ?_ _ | refine bs ?_ (by first | exact Nat.le_refl _ | (dsimp only; omega) | (simp; done)) _ | refine bt ?_ (by assumption)))); have hs6 := Hb6.out.size; rw [← Hmn.out])
          | (at_builtin; refine wpList_append_own _ rfl _ _ 64 rfl w2.heap.size 9 i0 (.string ByteArray.empty) 1 16 Tryz.underlying64 Hi.out Hz0.out Hz1.out Hz2.out rfl (by decide) _ k _ rfl ((owns_below Hown.out Hb6.out).alloc _) ⟨_, 0, none⟩ 1 1 [.string (mk mn)] rfl rfl (one_new (by first | rfl | simp)) (fun x hx => by simp at hx; subst hx; rfl) (by unfold maxLen; omega) (by omega) (by simp; omega) ?_; intro v7 w7 hown7 hgrow7 hnil7))
        have Hx7 := Lib.hid ((((Hbel.out.trans (Hb6.out.mono hsz)).alloc (by omega) _).grown hgrow7 (by simp; omega) (fun g hg => (Hown.out.lt g hg).1)))
        have Hown7 := Lib.hid (show w7.ownsRow w2.heap.size 9 1 v7 (k + 1) (((bl.take (k + 1)).map (entryAt p)).map sv) by rw [Hs.out, ← map_snoc]; exact hown7)
        clear hown7 hgrow7 hnil7
        go_roundw
        case rel => exact ⟨k + 1, by omega, by go_num, Hown7.out, Hx7.out⟩
        case measure => simp [intOf]; omega
      · obtain rfl : k = bl.length := by omega
        have Hasc := Lib.hid (impl_ascending w2.heap.size _ (bl.map (entryAt p)) wr (own_all Hown.out) (by omega) (by simp; omega))
        go_wp2_with (go_at_call 76; refine Hasc.out.mono ?_; rintro _ w9 ⟨v9, rfl, hown9, hb9⟩)
        go_ret
        refine ⟨_, rfl, ?_, Hb2.out.trans ((hbel.trans hb9).mono hw2)⟩
        rw [← Hyes.out]
        exact owns_mono hown9 hw2

theorem head_at {x : List Bs} {h : 0 < x.length} : x[0]'h = x.headD [] := by cases x with | nil => simp at h | cons a b => rfl
set_option maxRecDepth 100000 in
set_option maxHeartbeats 1000000 in
theorem spec_firstBelow (s p : Bs) (w : World) (hs : s.length ≤ 8000000) (hu : under s p = true) (hne : s ≠ p) :
    Calls Tryz.prog 98 #[.string (mk s), .string (mk p)] w fun e w' => e = .returned (.string (mk (firstBelow s p))) ∧ Below w.heap.size w w' := by
  by_cases h0 : p = []
  · subst h0
    have Hv := Lib.hid (show (split s).headD [] = firstBelow s [] from rfl)
    have hpos := split_pos s
    clear hu hne
    go_enter Tryz.func98, Tryz.ntmps98
    go_wp2_with fail
    refine (spec_splitAt s _ (by omega)).mono ?_
    rintro _ w1 ⟨v1, rfl, hown1, hb1⟩
    obtain ⟨b1, o1, c1, rfl, hl1, hm1, hlt1, hc1⟩ := Reads.some (Reads.of_owns hown1) hpos
    have hcell1 := hc1 0 (by omega)
    rw [head_at, Hv.out, Nat.add_zero] at hcell1
    clear hown1 hc1
    go_wp2_with fail
    go_ret
    exact ⟨rfl, by (repeat (with_reducible first | exact Below.refl _ _ | assumption | refine ba ?_ _ | refine bd ?_ | refine bdN ?_ _ | refine bs ?_ (by first | exact Nat.le_refl _ | (dsimp only; omega) | (simp; done)) _ | refine bt ?_ (by assumption)))⟩
  · obtain ⟨r, rfl⟩ := (under_shape hu h0).resolve_left hne
    have hpe : p.isEmpty = false := by cases p with | nil => exact absurd rfl h0 | cons a b => rfl
    have hd : (p ++ 46 :: r).drop (p.length + 1) = r := by rw [List.drop_append]; simp
    have Hv := Lib.hid (show (split r).headD [] = firstBelow (p ++ 46 :: r) p by rw [firstBelow, hpe, if_neg (by simp), hd])
    have hpos := split_pos r
    have hpb : (p == []) = false := by simpa using h0
    have hle : p.length + 1 ≤ (p ++ 46 :: r).length := by simp
    have hrl : r.length ≤ 8000000 := by simp at hs; omega
    have Hd := Lib.hid (show ((p ++ 46 :: r).drop (p.length + 1)).take ((p ++ 46 :: r).length - (p.length + 1)) = r by rw [hd]; exact List.take_of_length_le (by simp; omega))
    clear hu hne hpe hd
    go_enter Tryz.func98, Tryz.ntmps98
    generalize p ++ 46 :: r = s at *
    go_wp2_with fail
    rw [Hd.out]
    refine (spec_splitAt r _ (by omega)).mono ?_
    rintro _ w1 ⟨v1, rfl, hown1, hb1⟩
    obtain ⟨b1, o1, c1, rfl, hl1, hm1, hlt1, hc1⟩ := Reads.some (Reads.of_owns hown1) hpos
    have hcell1 := hc1 0 (by omega)
    rw [head_at, Hv.out, Nat.add_zero] at hcell1
    clear hown1 hc1
    go_wp2_with fail
    go_ret
    exact ⟨rfl, by (repeat (with_reducible first | exact Below.refl _ _ | assumption | refine ba ?_ _ | refine bd ?_ | refine bdN ?_ _ | refine bs ?_ (by first | exact Nat.le_refl _ | (dsimp only; omega) | (simp; done)) _ | refine bt ?_ (by assumption)))⟩

theorem entries_snoc (fs : List Fil) (root : Int) (p : Bs) (k : Nat) (h : k < fs.length) : entries (fs.take (k + 1)) root p = entries (fs.take k) root p ++ (if entry fs[k] root p = [] then [] else [entry fs[k] root p]) := by
  unfold entries
  rw [List.take_succ_eq_append_getElem h, List.map_append, List.filter_append]
  congr 1
  cases he : entry fs[k] root p with
  | nil => simp [he]
  | cons a b => simp [he]
theorem entries_len (fs : List Fil) (root : Int) (p : Bs) : (entries fs root p).length ≤ fs.length := by
  unfold entries
  exact Nat.le_trans (List.length_filter_le _ _) (by simp)
theorem spec_insertTextS (N g cap : Nat) (l : List Bs) (s : Bs) (t : ByteArray) (w : World) (ht : t = mk s) (hown : w.ownsRow N 9 1 (.slice (some ⟨g, 0, none⟩) l.length cap) l.length (l.map sv)) (hu : Up l) (hN : N ≤ w.heap.size) (hz : l.length ≤ 1000000) :
    Calls Tryz.prog 99 #[.slice (some ⟨g, 0, none⟩) l.length cap, .string t] w (InsStrs N g 9 (insTo l s) w) := by subst ht; exact spec_insertText N g cap l s w hown hu hN hz
theorem first_len {s p : Bs} (h1 : vn s = true) (hv : vpk p = true) (h2 : under s p = true) (he : s ≠ p) : (firstBelow s p).length ≤ 3 := by
  obtain ⟨hlt, hget⟩ := List.getElem?_eq_some_iff.1 (first_of h1 hv h2 he)
  have hm := List.getElem_mem hlt
  rw [hget, parts_of h1] at hm
  exact (vp_len ((vps_iff.1 (show vps (split s) = true from h1)).2 _ hm)).2
theorem mk_slash (x : Bs) : mk x ++ ⟨#[47]⟩ = mk (x ++ [47]) := by
  show mk x ++ mk [47] = _
  rw [mk_append]
set_option maxRecDepth 100000 in
set_option maxHeartbeats 2000000 in
theorem spec_listing (v : Value) (fs : List Fil) (D : Nat → Prop) (root : Int) (p : Bs) (w : World) (hr : FilsIn w D v fs) (hz : ShortT 2000000 fs) (hp : p.length ≤ 2000000) (hall : fs.all okFil = true) (h12 : fs.length ≤ 12) (hvp : vpk p = true) :
    Calls Tryz.prog 48 #[.agg #[v], .int .i64 root, .string (mk p)] w (NewStrs 9 (sortUp (entries fs root p)) w) := by
  have Hr := Lib.hid hr
  obtain ⟨aa, ca, rfl, hl, hm⟩ := hr.len
  unfold maxLen at hm
  have Hz := Lib.hid hz
  have Hall := Lib.hid hall
  clear hr hz hall
  go_enter Tryz.func48, Tryz.ntmps48
  have Hown0 := Lib.hid (World.ownsRow_made (base := w.heap.size + 1) (size := 1) (e := 9) (w.alloc (.cells #[.slice aa fs.length ca] 40)) #[] 0 (by simp) (by unfold maxLen; omega) rfl)
  have Hx0 := Lib.hid ((Boxed.start w #[.slice aa fs.length ca] 40).step (ba (Below.refl _ _) (.cells #[] 9)))
  go_wp2_with fail
  go_loopw [7, 8] (fun nv iv wr => ∃ (k g cap : Nat), k ≤ fs.length ∧ iv = .int .i64 k ∧ nv = .slice (some ⟨g, 0, none⟩) (sortUp (entries (fs.take k) root p)).length cap ∧ wr.ownsRow (w.heap.size + 1) 9 1 (.slice (some ⟨g, 0, none⟩) (sortUp (entries (fs.take k) root p)).length cap) (sortUp (entries (fs.take k) root p)).length ((sortUp (entries (fs.take k) root p)).map sv) ∧ Boxed w #[.slice aa fs.length ca] 40 wr) (fun _ iv _ => fs.length - (intOf iv).toNat)
  case atStart => exact ⟨0, w.heap.size + 1, 0, by omega, rfl, rfl, by have h := Hown0.out; rw [show (w.alloc (.cells #[.slice aa fs.length ca] 40)).heap.size = w.heap.size + 1 by simp] at h; exact h, Hx0.out⟩
  case round =>
    obtain ⟨k, g, cap, hk, rfl, rfl, hown, hbx⟩ := hrel
    have hbel := hbx.below
    have hsz := hbx.lt
    have hA : wr.cell? ⟨w.heap.size, 0, none⟩ = some (.slice aa fs.length ca) := hbx.cell 0
    have Hown := Lib.hid hown
    have Hbx := Lib.hid hbx
    have Hup := Lib.hid (sortUp_up (entries (fs.take k) root p))
    have hln : (sortUp (entries (fs.take k) root p)).length ≤ 12 := Nat.le_trans (sortUp_len _) (Nat.le_trans (entries_len _ _ _) (by simp; omega))
    clear hown hbx Hx0 Hown0
    by_cases hlt : k < fs.length
    · obtain ⟨b, off, cap', bv, e, hD, hb, hbody, c0, c1, c2, c3, c4, c5⟩ := (Hr.out.below hbel).at_ hlt
      simp only [Value.slice.injEq] at e
      obtain ⟨rfl, _, rfl⟩ := e
      obtain ⟨ba', bc', rfl, hbl, hbm⟩ := hbody.len
      obtain ⟨z1, z2, z3⟩ := Hz.out _ (List.getElem_mem hlt)
      have Hsn := Lib.hid (entries_snoc fs root p k hlt)
      have Hok := Lib.hid (List.all_eq_true.1 Hall.out _ (List.getElem_mem hlt))
      obtain ⟨f, hf⟩ : ∃ f, f = fs[k] := ⟨_, rfl⟩
      rw [← hf] at c0 c1 c2 c3 c4 c5 z1 z2 Hsn Hok
      clear hf hbody hbm hbl z3
      obtain ⟨fr, fp, fn, fi, fst, fb⟩ := f
      dsimp only at c0 c1 c2 c3 c4 c5 z1 z2
      have Hen := Lib.hid (show entry ⟨fr, fp, fn, fi, fst, fb⟩ root p = if fr = root then (if fp = p then (if fi then [42] else fn) else if !fp.isEmpty && under fp p then firstBelow fp p ++ [47] else []) else [] from rfl)
      by_cases hroot : fr = root
      · rw [if_pos hroot] at Hen
        rw [hroot] at c0 Hen Hsn Hok
        clear hroot
        by_cases hpack : fp = p
        · rw [if_pos hpack] at Hen
          rw [hpack] at c1 Hen Hsn Hok
          clear hpack z1
          cases fi
          · have hnn := okFil_name Hok.out rfl
            have hnb : (fn == []) = false := by simpa using hnn
            have Hs := Lib.hid (show sortUp (entries (fs.take (k + 1)) root p) = insTo (sortUp (entries (fs.take k) root p)) fn by rw [Hsn.out, Hen.out, if_neg (by simpa using hnn), sortUp_snoc]; rfl)
            clear hnn
            generalize sortUp (entries (fs.take k) root p) = L at *
            go_wp2_with (go_at_call 99; refine (spec_insertTextS (w.heap.size + 1) g cap L fn _ _ rfl (owns_below Hown.out (by (repeat (with_reducible first | exact Below.refl _ _ | assumption | refine ba ?_ _ | refine bd ?_ | refine bdN ?_ _ | refine bs ?_ (by first | exact Nat.le_refl _ | (dsimp only; omega) | (simp; done)) _ | refine bt ?_ (by assumption))))) Hup.out (le_size (by (repeat (with_reducible first | exact Below.refl _ _ | assumption | refine ba ?_ _ | refine bd ?_ | refine bdN ?_ _ | refine bs ?_ (by first | exact Nat.le_refl _ | (dsimp only; omega) | (simp; done)) _ | refine bt ?_ (by assumption)))) hsz) (by omega)).mono ?_; rintro _ w7 ⟨g7, c7, rfl, hown7, hb7, _, _⟩)
            have Hx7 := Lib.hid (boxed_low (Hbx.out.step (by (repeat (with_reducible first | exact Below.refl _ _ | assumption | refine ba ?_ _ | refine bd ?_ | refine bdN ?_ _ | refine bs ?_ (by first | exact Nat.le_refl _ | (dsimp only; omega) | (simp; done)) _ | refine bt ?_ (by assumption))))) hb7)
            have Hown7 := Lib.hid hown7
            clear hown7 hb7
            go_roundw
            case rel => exact ⟨k + 1, g7, c7, by omega, by go_num, by rw [Hs.out], by rw [Hs.out]; exact Hown7.out, Hx7.out⟩
            case measure => simp [intOf]; omega
          · have Hs := Lib.hid (show sortUp (entries (fs.take (k + 1)) root p) = insTo (sortUp (entries (fs.take k) root p)) [42] by rw [Hsn.out, Hen.out, if_neg (by simp), sortUp_snoc]; rfl)
            generalize sortUp (entries (fs.take k) root p) = L at *
            go_wp2_with (go_at_call 99; refine (spec_insertTextS (w.heap.size + 1) g cap L [42] _ _ rfl (owns_below Hown.out (by (repeat (with_reducible first | exact Below.refl _ _ | assumption | refine ba ?_ _ | refine bd ?_ | refine bdN ?_ _ | refine bs ?_ (by first | exact Nat.le_refl _ | (dsimp only; omega) | (simp; done)) _ | refine bt ?_ (by assumption))))) Hup.out (le_size (by (repeat (with_reducible first | exact Below.refl _ _ | assumption | refine ba ?_ _ | refine bd ?_ | refine bdN ?_ _ | refine bs ?_ (by first | exact Nat.le_refl _ | (dsimp only; omega) | (simp; done)) _ | refine bt ?_ (by assumption)))) hsz) (by omega)).mono ?_; rintro _ w7 ⟨g7, c7, rfl, hown7, hb7, _, _⟩)
            have Hx7 := Lib.hid (boxed_low (Hbx.out.step (by (repeat (with_reducible first | exact Below.refl _ _ | assumption | refine ba ?_ _ | refine bd ?_ | refine bdN ?_ _ | refine bs ?_ (by first | exact Nat.le_refl _ | (dsimp only; omega) | (simp; done)) _ | refine bt ?_ (by assumption))))) hb7)
            have Hown7 := Lib.hid hown7
            clear hown7 hb7
            go_roundw
            case rel => exact ⟨k + 1, g7, c7, by omega, by go_num, by rw [Hs.out], by rw [Hs.out]; exact Hown7.out, Hx7.out⟩
            case measure => simp [intOf]; omega
        · rw [if_neg hpack] at Hen
          have hpb : (fp == p) = false := by simpa using hpack
          by_cases h0 : fp = []
          · have Hs := Lib.hid (show sortUp (entries (fs.take (k + 1)) root p) = sortUp (entries (fs.take k) root p) by rw [Hsn.out, Hen.out]; simp [h0])
            subst h0
            clear hpack
            generalize sortUp (entries (fs.take k) root p) = L at *
            go_wp2_with fail
            go_roundw
            case rel => exact ⟨k + 1, g, cap, by omega, by go_num, by rw [Hs.out], by rw [Hs.out]; exact owns_below Hown.out (by (repeat (with_reducible first | exact Below.refl _ _ | assumption | refine ba ?_ _ | refine bd ?_ | refine bdN ?_ _ | refine bs ?_ (by first | exact Nat.le_refl _ | (dsimp only; omega) | (simp; done)) _ | refine bt ?_ (by assumption)))), Hbx.out.step (by (repeat (with_reducible first | exact Below.refl _ _ | assumption | refine ba ?_ _ | refine bd ?_ | refine bdN ?_ _ | refine bs ?_ (by first | exact Nat.le_refl _ | (dsimp only; omega) | (simp; done)) _ | refine bt ?_ (by assumption))))⟩
            case measure => simp [intOf]; omega
          · have h0b : (fp == []) = false := by simpa using h0
            have h0e : fp.isEmpty = false := by cases fp with | nil => exact absurd rfl h0 | cons a b => rfl
            cases hu : under fp p
            · have Hs := Lib.hid (show sortUp (entries (fs.take (k + 1)) root p) = sortUp (entries (fs.take k) root p) by rw [Hsn.out, Hen.out]; simp [hu])
              have Hu := Lib.hid hu
              clear hpack hu h0 h0e
              generalize sortUp (entries (fs.take k) root p) = L at *
              go_wp2_with (go_at_call 97; refine (spec_under _ _ _ (by omega) (by omega)).mono ?_; rintro _ _ ⟨rfl, rfl⟩; rw [Hu.out])
              go_roundw
              case rel => exact ⟨k + 1, g, cap, by omega, by go_num, by rw [Hs.out], by rw [Hs.out]; exact owns_below Hown.out (by (repeat (with_reducible first | exact Below.refl _ _ | assumption | refine ba ?_ _ | refine bd ?_ | refine bdN ?_ _ | refine bs ?_ (by first | exact Nat.le_refl _ | (dsimp only; omega) | (simp; done)) _ | refine bt ?_ (by assumption)))), Hbx.out.step (by (repeat (with_reducible first | exact Below.refl _ _ | assumption | refine ba ?_ _ | refine bd ?_ | refine bdN ?_ _ | refine bs ?_ (by first | exact Nat.le_refl _ | (dsimp only; omega) | (simp; done)) _ | refine bt ?_ (by assumption))))⟩
              case measure => simp [intOf]; omega
            · have Hs := Lib.hid (show sortUp (entries (fs.take (k + 1)) root p) = insTo (sortUp (entries (fs.take k) root p)) (firstBelow fp p ++ [47]) by rw [Hsn.out, Hen.out, h0e, hu]; simp [sortUp_snoc])
              have Hu := Lib.hid hu
              have Hpk := Lib.hid hpack
              have hfl := first_len (vn_of_vpk (okFil_pack Hok.out) h0) hvp hu hpack
              have hq1 : ¬ mk (firstBelow fp p) ++ ⟨#[47]⟩ = (⟨#[]⟩ : ByteArray) := fun e => by
                rw [mk_slash] at e
                have := congrArg (fun b : ByteArray => b.data.toList) e
                simp [mk_list] at this
              have hq2 : ((mk (firstBelow fp p) ++ ⟨#[47]⟩).toList == ([] : Bs)) = false := by rw [mk_slash, mk_toList]; simp
              clear hpack hu h0 h0e
              generalize sortUp (entries (fs.take k) root p) = L at *
              go_wp2_with (first
                | (go_at_call 97; refine (spec_under _ _ _ (by omega) (by omega)).mono ?_; rintro _ _ ⟨rfl, rfl⟩; rw [Hu.out])
                | (go_at_call 98; refine (spec_firstBelow fp p _ (by omega) Hu.out Hpk.out).mono ?_; (rintro _ _ ⟨rfl, hb⟩; obtain ⟨hc, hf, hs⟩ := bcell hb))
                | (go_at_call 99; refine (spec_insertTextS (w.heap.size + 1) g cap L (firstBelow fp p ++ [47]) _ _ (mk_slash _) (owns_below Hown.out (by (repeat (with_reducible first | exact Below.refl _ _ | assumption | refine ba ?_ _ | refine bd ?_ | refine bdN ?_ _ | refine bs ?_ (by first | exact Nat.le_refl _ | (dsimp only; omega) | (simp; done)) _ | refine bt ?_ (by assumption))))) Hup.out (le_size (by (repeat (with_reducible first | exact Below.refl _ _ | assumption | refine ba ?_ _ | refine bd ?_ | refine bdN ?_ _ | refine bs ?_ (by first | exact Nat.le_refl _ | (dsimp only; omega) | (simp; done)) _ | refine bt ?_ (by assumption)))) hsz) (by omega)).mono ?_; rintro _ w7 ⟨g7, c7, rfl, hown7, hb7, _, _⟩))
              have Hx7 := Lib.hid (boxed_low (Hbx.out.step (by (repeat (with_reducible first | exact Below.refl _ _ | assumption | refine ba ?_ _ | refine bd ?_ | refine bdN ?_ _ | refine bs ?_ (by first | exact Nat.le_refl _ | (dsimp only; omega) | (simp; done)) _ | refine bt ?_ (by assumption))))) hb7)
              have Hown7 := Lib.hid hown7
              clear hown7 hb7
              go_roundw
              case rel => exact ⟨k + 1, g7, c7, by omega, by go_num, by rw [Hs.out], by rw [Hs.out]; exact Hown7.out, Hx7.out⟩
              case measure => simp [intOf]; omega
      · rw [if_neg hroot] at Hen
        have hrb : (fr == root) = false := by simpa using hroot
        have Hs := Lib.hid (show sortUp (entries (fs.take (k + 1)) root p) = sortUp (entries (fs.take k) root p) by rw [Hsn.out, Hen.out]; simp)
        clear hroot
        generalize sortUp (entries (fs.take k) root p) = L at *
        go_wp2_with fail
        go_roundw
        case rel => exact ⟨k + 1, g, cap, by omega, by go_num, by rw [Hs.out], by rw [Hs.out]; exact owns_below Hown.out (by (repeat (with_reducible first | exact Below.refl _ _ | assumption | refine ba ?_ _ | refine bd ?_ | refine bdN ?_ _ | refine bs ?_ (by first | exact Nat.le_refl _ | (dsimp only; omega) | (simp; done)) _ | refine bt ?_ (by assumption)))), Hbx.out.step (by (repeat (with_reducible first | exact Below.refl _ _ | assumption | refine ba ?_ _ | refine bd ?_ | refine bdN ?_ _ | refine bs ?_ (by first | exact Nat.le_refl _ | (dsimp only; omega) | (simp; done)) _ | refine bt ?_ (by assumption))))⟩
        case measure => simp [intOf]; omega
    · obtain rfl : k = fs.length := by omega
      have Hf := Lib.hid (show sortUp (entries (fs.take fs.length) root p) = sortUp (entries fs root p) by rw [List.take_length])
      go_wp2_with fail
      go_ret
      refine ⟨_, rfl, ?_, hbel⟩
      rw [← Hf.out]
      exact owns_mono Hown.out (by omega)

end Go.Proofs.YtllopbfgiflokaaGreat
