/- Contracts of the functions that list the names that are found. -/
import Derived.Test.YtcmnldomcpjlcaaGreatLists
import Derived.Test.YtcmnldomcpjlcaaGreatSLooks
import Derived.Lib.SliceRun
set_option linter.unusedVariables false
set_option linter.unusedSimpArgs false
namespace Go.Proofs.YtcmnldomcpjlcaaGreat
open Go.RowKit Go.Proofs.YtcmnldomcpjlcaaGreat.Nm

def nmOf (fs : List Fil) : List Bs := fs.flatMap (fun f => above (modName f))
theorem nmOf_snoc (fs : List Fil) (k : Nat) (h : k < fs.length) : nmOf (fs.take (k + 1)) = nmOf (fs.take k) ++ above (modName fs[k]) := by
  simp only [nmOf, List.take_succ_eq_append_getElem h, List.flatMap_append, List.flatMap_cons, List.flatMap_nil, List.append_nil]
theorem nmOf_len : ∀ (fs : List Fil), fs.all okFil = true → (nmOf fs).length ≤ 3 * fs.length
  | [], _ => by simp [nmOf]
  | f :: r, h => by
    rw [List.all_cons, Bool.and_eq_true] at h
    have h1 := nmOf_len r h.2
    have h2 := namesAbove_le3 (modName f)
    unfold namesAbove at h2
    rw [if_pos (okFil_mod h.1).2] at h2
    have e : nmOf (f :: r) = above (modName f) ++ nmOf r := by simp [nmOf]
    rw [e, List.length_append, List.length_cons]
    omega
theorem all_take {fs : List Fil} (h : fs.all okFil = true) (k : Nat) : (fs.take k).all okFil = true := by
  rw [List.all_eq_true] at h ⊢
  exact fun f hf => h f (List.mem_of_mem_take hf)
theorem sortUp_add (xs ys : List Bs) : sortUp (xs ++ ys) = ys.foldl insTo (sortUp xs) := by simp [sortUp, List.foldl_append]
theorem foldIns_next (L ys : List Bs) (j : Nat) (h : j < ys.length) : (ys.take (j + 1)).foldl insTo L = insTo ((ys.take j).foldl insTo L) ys[j] := by
  rw [List.take_succ_eq_append_getElem h, List.foldl_append]; rfl
set_option maxRecDepth 100000 in
set_option maxHeartbeats 2000000 in
theorem spec_namesG (v : Value) (fs : List Fil) (D : Nat → Prop) (w : World) (hr : FilsIn w D v fs) (hz : ShortT 2000000 fs) (hok : okTree fs = true) :
    Calls Tryz.prog 145 #[.agg #[v]] w fun e w' => ∃ g cap : Nat, e = .returned (.slice (some ⟨g, 0, none⟩) (allNames fs).length cap) ∧ w'.ownsRow w.heap.size 9 1 (.slice (some ⟨g, 0, none⟩) (allNames fs).length cap) (allNames fs).length ((allNames fs).map sv) ∧ Below w.heap.size w w' := by
  have Hr := Lib.hid hr
  obtain ⟨aa, ca, rfl, hl, hm⟩ := hr.len
  unfold maxLen at hm
  have Hz := Lib.hid hz
  have Hall := Lib.hid (okTree_all hok).1
  have h12 := (okTree_all hok).2.2
  clear hr hz hok
  go_enter Tryz.func145, Tryz.ntmps145
  have Hx := Lib.hid (Boxed.start w #[.slice aa fs.length ca] 31)
  have Hown0 := Lib.hid (World.ownsRow_made (base := w.heap.size + 1) (size := 1) (e := 9) (w.alloc (.cells #[.slice aa fs.length ca] 31)) #[] 0 (by simp) (by unfold maxLen; omega) rfl)
  have Hx0 := Lib.hid (Hx.out.step (ba (Below.refl _ _) (.cells #[] 9)))
  go_wp2_with fail
  go_loopw [3, 4] (fun nv iv wr => ∃ (k g cap : Nat), k ≤ fs.length ∧ iv = .int .i64 k ∧ nv = .slice (some ⟨g, 0, none⟩) (sortUp (nmOf (fs.take k))).length cap ∧ wr.ownsRow (w.heap.size + 1) 9 1 (.slice (some ⟨g, 0, none⟩) (sortUp (nmOf (fs.take k))).length cap) (sortUp (nmOf (fs.take k))).length ((sortUp (nmOf (fs.take k))).map sv) ∧ Boxed w #[.slice aa fs.length ca] 31 wr) (fun _ iv _ => fs.length - (intOf iv).toNat)
  case atStart =>
    have e0 : sortUp (nmOf (fs.take 0)) = [] := by simp [nmOf, sortUp]
    refine ⟨0, w.heap.size + 1, 0, by omega, rfl, ?_, ?_, Hx0.out⟩
    · rw [e0]; rfl
    · have h0 := Hown0.out
      rw [show (w.alloc (.cells #[.slice aa fs.length ca] 31)).heap.size = w.heap.size + 1 from by simp] at h0
      rw [e0]; exact h0
  case round =>
    obtain ⟨k, g, cap, hk, rfl, rfl, hown, hbx⟩ := hrel
    have hbel := hbx.below
    have hsz := hbx.lt
    have hA : wr.cell? ⟨w.heap.size, 0, none⟩ = some (.slice aa fs.length ca) := hbx.cell 0
    have Hown := Lib.hid hown
    have Hbx := Lib.hid hbx
    have Hup := Lib.hid (sortUp_up (nmOf (fs.take k)))
    have hln : (sortUp (nmOf (fs.take k))).length ≤ 36 := Nat.le_trans (sortUp_len _) (Nat.le_trans (nmOf_len _ (all_take Hall.out k)) (by simp; omega))
    clear hown hbx Hx Hx0 Hown0
    by_cases hlt : k < fs.length
    · obtain ⟨b, off, cap', bv, e, hD, hb, hbody, c0, c1, c2, c3, c4, c5⟩ := (Hr.out.below hbel).at_ hlt
      simp only [Value.slice.injEq] at e
      obtain ⟨rfl, _, rfl⟩ := e
      obtain ⟨ba', bc', rfl, hbl, hbm⟩ := hbody.len
      obtain ⟨z1, z2, z3⟩ := Hz.out _ (List.getElem_mem hlt)
      have hmod := okFil_mod (List.all_eq_true.1 Hall.out _ (List.getElem_mem hlt))
      have Hs := Lib.hid (show sortUp (nmOf (fs.take (k + 1))) = (above (modName fs[k])).foldl insTo (sortUp (nmOf (fs.take k))) by rw [nmOf_snoc fs k hlt, sortUp_add])
      obtain ⟨f, hf⟩ : ∃ f, f = fs[k] := ⟨_, rfl⟩
      rw [← hf] at c0 c1 c2 c3 c4 c5 z1 z2 hmod Hs
      clear hf hbody hbl hbm z3
      obtain ⟨fr, fp, fn, fi, fst, fb⟩ := f
      dsimp only at c0 c1 c2 c3 c4 c5 z1 z2
      have hvl := vn_len hmod.2
      have hal : (above (modName ⟨fr, fp, fn, fi, fst, fb⟩)).length ≤ 3 := by
        have := namesAbove_le3 (modName ⟨fr, fp, fn, fi, fst, fb⟩); unfold namesAbove at this; rw [if_pos hmod.2] at this; exact this
      obtain ⟨nm, hnm⟩ : ∃ nm, nm = modName ⟨fr, fp, fn, fi, fst, fb⟩ := ⟨_, rfl⟩
      rw [← hnm] at hvl Hs hal
      have Hnm := Lib.hid hnm
      clear hnm hmod
      generalize hL : sortUp (nmOf (fs.take k)) = L at *
      go_wp2_with (first
        | (go_at_call 131; refine (spec_moduleName _ _ _ _ _ _ fb _ (by omega) (by omega)).mono ?_; rintro _ w5 ⟨rfl, hb5⟩; rw [← Hnm.out])
        | (go_at_call 65; refine (spec_above nm _ (by omega)).mono ?_; rintro _ w6 ⟨v6, rfl, hown6, hb6⟩; have Hown6 := Lib.hid (owns_mono hown6 (show wr.heap.size ≤ _ from hb5.size)); have Hb6 := Lib.hid (bt hb5 hb6); obtain ⟨a6, c6, hv6⟩ := owns_shape hown6; subst hv6; clear hown6 hb6))
      have hg := (Hown.out.lt g rfl).2
      clear c0 c1 c2 c3 c4 c5
      have Hdis := Lib.hid (show ∀ b, (Value.slice a6 (above nm).length c6).ownBlock = some b → b ≠ g from fun b hb e => by have := (Hown6.out.lt b hb).1; omega)
      have Hown1 := Lib.hid (owns_below Hown.out Hb6.out)
      have Hbx1 := Lib.hid (Hbx.out.step Hb6.out)
      clear Hnm
      generalize above nm = ys at *
      go_loopw [3, 6] (fun nv jv ws => ∃ (j g' cp : Nat), j ≤ ys.length ∧ jv = .int .i64 j ∧ nv = .slice (some ⟨g', 0, none⟩) ((ys.take j).foldl insTo L).length cp ∧ ws.ownsRow (w.heap.size + 1) 9 1 (.slice (some ⟨g', 0, none⟩) ((ys.take j).foldl insTo L).length cp) ((ys.take j).foldl insTo L).length (((ys.take j).foldl insTo L).map sv) ∧ Boxed w #[.slice (some ⟨b, off, none⟩) fs.length ca] 31 ws ∧ ws.ownsRow wr.heap.size 9 1 (.slice a6 ys.length c6) ys.length (ys.map sv) ∧ (∀ b, (Value.slice a6 ys.length c6).ownBlock = some b → b ≠ g')) (fun _ jv _ => ys.length - (intOf jv).toNat)
      case atStart => exact ⟨0, g, cap, by omega, rfl, rfl, Hown1.out, Hbx1.out, Hown6.out, Hdis.out⟩
      case round =>
        obtain ⟨j, g', cp, hj, rfl, rfl, hownj, hbxj, hlistj, hdisj⟩ := hrel
        have Hownj := Lib.hid hownj
        have Hbxj := Lib.hid hbxj
        have Hdisj := Lib.hid hdisj
        have hszj := hbxj.lt
        have hAj : wr.cell? ⟨w.heap.size, 0, none⟩ = some (.slice (some ⟨b, off, none⟩) fs.length ca) := hbxj.cell 0
        have Hupj := Lib.hid (show Up ((ys.take j).foldl insTo L) from foldIns_up _ Hup.out)
        have hlj : ((ys.take j).foldl insTo L).length ≤ 39 := Nat.le_trans (foldIns_len _ _) (by simp; omega)
        clear hownj hbxj hdisj
        by_cases hjl : j < ys.length
        · obtain ⟨gl, cl, el, hgl1, hgl2⟩ := hlistj.form (by omega)
          simp only [Value.slice.injEq] at el
          obtain ⟨rfl, _, rfl⟩ := el
          have hcj : wr.cell? ⟨gl, j, none⟩ = some (.string (mk ys[j])) := by
            rw [hlistj.cellAt j (by omega), List.getElem?_map, List.getElem?_eq_getElem hjl]; rfl
          have Hlistj := Lib.hid hlistj
          have hne : gl ≠ g' := Hdisj.out gl rfl
          have Hst := Lib.hid (foldIns_next L ys j hjl)
          clear hlistj
          generalize ys[j] = y at *
          generalize (ys.take j).foldl insTo L = M at *
          go_wp2_with (go_at_call 67; refine (spec_insertText (w.heap.size + 1) g' cp M y _ Hownj.out Hupj.out (by omega) (by omega)).mono ?_; rintro _ w7 ⟨g7, c7, rfl, hown7, hb7, ht7, hq7⟩)
          have Hown7 := Lib.hid hown7
          have Hx7 := Lib.hid (boxed_low Hbxj.out hb7)
          have Hl7 := Lib.hid (owns_turned Hlistj.out ht7 (fun b hb e => hne (by cases hb; exact e)))
          have hne7 : gl ≠ g7 := by omega
          clear hown7 hb7 ht7
          go_roundw
          case rel => exact ⟨j + 1, g7, c7, by omega, by go_num, by rw [Hst.out], by rw [Hst.out]; exact Hown7.out, Hx7.out, Hl7.out, fun b hb => by cases hb; exact hne7⟩
          case measure => simp [intOf]; omega
        · obtain rfl : j = ys.length := by omega
          have Hfin := Lib.hid (show sortUp (nmOf (fs.take (k + 1))) = (ys.take ys.length).foldl insTo L by rw [List.take_length]; exact Hs.out)
          clear hlistj
          generalize (ys.take ys.length).foldl insTo L = M at *
          go_wp2_with fail
          refine ⟨⟨k + 1, g', cp, by omega, by go_num, by rw [Hfin.out], by rw [Hfin.out]; exact Hownj.out, Hbxj.out⟩, ?_⟩
          simp [intOf]; omega
    · obtain rfl : k = fs.length := by omega
      have Hf := Lib.hid (show sortUp (nmOf (fs.take fs.length)) = allNames fs by rw [List.take_length]; rfl)
      go_wp2_with fail
      go_ret
      refine ⟨g, cap, by rw [← Hf.out]; rfl, ?_, hbel⟩
      rw [← Hf.out]
      exact owns_mono Hown.out (by omega)
theorem spec_names (v : Value) (fs : List Fil) (D : Nat → Prop) (w : World) (hr : FilsIn w D v fs) (hz : ShortT 2000000 fs) (hok : okTree fs = true) :
    Calls Tryz.prog 145 #[.agg #[v]] w (NewStrs 9 (allNames fs) w) :=
  (spec_namesG v fs D w hr hz hok).mono fun _ _ ⟨_, _, he, ho, hb⟩ => ⟨_, he, ho, hb⟩

theorem foundNames_at {t : List Fil} {path : List Int} (h : okLook t path = true) : (allNames t).filter (fun s => decide ((byParts t path s).kind ≠ 0)) = foundNames t path := by rw [foundNames, if_pos h]
theorem foundNames_no {t : List Fil} {path : List Int} (h : okLook t path = false) : foundNames t path = [] := by rw [foundNames, h]; rfl
theorem filter_snoc (p : Bs → Bool) (L : List Bs) (k : Nat) (h : k < L.length) : (L.take (k + 1)).filter p = (L.take k).filter p ++ (if p L[k] = true then [L[k]] else []) := by
  rw [List.take_succ_eq_append_getElem h, List.filter_append]
  cases hp : p L[k] <;> simp [hp]
set_option maxRecDepth 100000 in
set_option maxHeartbeats 4000000 in
theorem spec_FoundNames (v : Value) (fs : List Fil) (D : Nat → Prop) (pv : Value) (path : List Int) (w : World) (hr : FilsIn w D v fs) (hz : ShortT 2000000 fs) (hp : IntsIn w pv path) :
    Calls Tryz.prog 98 #[.agg #[v], pv] w (NewStrs 9 (foundNames fs path) w) := by
  obtain ⟨i0, hi, hz0, hz1, hz2⟩ := info_parts infoS
  have Hi := Lib.hid hi
  have Hz0 := Lib.hid hz0
  have Hz1 := Lib.hid hz1
  have Hz2 := Lib.hid hz2
  have Hr := Lib.hid hr
  have Hz := Lib.hid hz
  have Hz3 := Lib.hid (short2 (B := 3000000) (by omega) hz)
  have Hp := Lib.hid hp
  obtain ⟨aa, ca, rfl, hl, hm⟩ := hr.len
  obtain ⟨pa, pc, rfl, hl1, hm1⟩ := hp.len
  have Hb0 := Lib.hid (Boxed.start w #[.slice aa fs.length ca] 31)
  have hf0 := fld0
  clear hr hz hp hl hm hl1 hm1 hi hz0 hz1 hz2
  cases h1 : okTree fs
  · have H1 := Lib.hid h1
    have Hs := Lib.hid (foundNames_no (t := fs) (path := path) (by unfold okLook; rw [h1]; simp))
    clear h1
    go_enter Tryz.func98, Tryz.ntmps98
    go_wp2_with (go_at_call 61; refine (spec_validTree _ fs D _ (Hr.out.below (by (repeat (with_reducible first | exact Below.refl _ _ | assumption | refine ba ?_ _ | refine bd ?_ | refine bdN ?_ _ | refine bs ?_ (by first | exact Nat.le_refl _ | (dsimp only; omega) | (simp; done)) _ | refine bt ?_ (by assumption))))) Hz3.out).mono ?_; rintro _ w5 ⟨rfl, hb5⟩; rw [H1.out]; have Hx5 := Lib.hid (Hb0.out.step hb5); have a0 : w5.cell? ⟨w.heap.size, 0, none⟩ = some (.slice aa fs.length ca) := Hx5.out.cell 0)
    go_ret
    exact newStrs_no Hs.out Hx5.out.below
  cases h2 : okPath path
  · have H1 := Lib.hid h1
    have H2 := Lib.hid h2
    have Hs := Lib.hid (foundNames_no (t := fs) (path := path) (by unfold okLook; rw [h2]; simp))
    clear h1 h2
    go_enter Tryz.func98, Tryz.ntmps98
    go_wp2_with (first
      | (go_at_call 61; refine (spec_validTree _ fs D _ (Hr.out.below (by (repeat (with_reducible first | exact Below.refl _ _ | assumption | refine ba ?_ _ | refine bd ?_ | refine bdN ?_ _ | refine bs ?_ (by first | exact Nat.le_refl _ | (dsimp only; omega) | (simp; done)) _ | refine bt ?_ (by assumption))))) Hz3.out).mono ?_; rintro _ w5 ⟨rfl, hb5⟩; rw [H1.out]; have Hx5 := Lib.hid (Hb0.out.step hb5); have a0 : w5.cell? ⟨w.heap.size, 0, none⟩ = some (.slice aa fs.length ca) := Hx5.out.cell 0)
      | (go_at_call 62; refine (spec_validPath _ path _ (Hp.out.below (by have := Hx5.out.below; (repeat (with_reducible first | exact Below.refl _ _ | assumption | refine ba ?_ _ | refine bd ?_ | refine bdN ?_ _ | refine bs ?_ (by first | exact Nat.le_refl _ | (dsimp only; omega) | (simp; done)) _ | refine bt ?_ (by assumption)))))).mono ?_; rintro _ w6 ⟨rfl, hb6⟩; rw [H2.out]; have Hx6 := Lib.hid (Hx5.out.step hb6); clear a0; have a0 : w6.cell? ⟨w.heap.size, 0, none⟩ = some (.slice aa fs.length ca) := Hx6.out.cell 0; have hlt6 := Hx6.out.lt))
    go_ret
    exact newStrs_no Hs.out Hx6.out.below
  have H1 := Lib.hid h1
  have H2 := Lib.hid h2
  have Ht := Lib.hid h1
  have h3 := okPath_len h2
  have h12 := (okTree_all h1).2.2
  have Hh := Lib.hid (foundNames_at (okLook_of h1 h2))
  have Hvs := Lib.hid (fun x (hx : x ∈ allNames fs) => allNames_vn h1 hx)
  have hL36 : (allNames fs).length ≤ 36 := Nat.le_trans (sortUp_len _) (Nat.le_trans (nmOf_len _ (okTree_all h1).1) (by omega))
  clear h1 h2
  obtain ⟨p, hpk⟩ : ∃ p : Bs → Bool, p = fun s => decide ((byParts fs path s).kind ≠ 0) := ⟨_, rfl⟩
  rw [← hpk] at Hh
  have Hpk := Lib.hid hpk
  clear hpk
  go_enter Tryz.func98, Tryz.ntmps98
  go_wp2_with (first
    | (go_at_call 61; refine (spec_validTree _ fs D _ (Hr.out.below (by (repeat (with_reducible first | exact Below.refl _ _ | assumption | refine ba ?_ _ | refine bd ?_ | refine bdN ?_ _ | refine bs ?_ (by first | exact Nat.le_refl _ | (dsimp only; omega) | (simp; done)) _ | refine bt ?_ (by assumption))))) Hz3.out).mono ?_; rintro _ w5 ⟨rfl, hb5⟩; rw [H1.out]; have Hx5 := Lib.hid (Hb0.out.step hb5); have a0 : w5.cell? ⟨w.heap.size, 0, none⟩ = some (.slice aa fs.length ca) := Hx5.out.cell 0)
    | (go_at_call 62; refine (spec_validPath _ path _ (Hp.out.below (by have := Hx5.out.below; (repeat (with_reducible first | exact Below.refl _ _ | assumption | refine ba ?_ _ | refine bd ?_ | refine bdN ?_ _ | refine bs ?_ (by first | exact Nat.le_refl _ | (dsimp only; omega) | (simp; done)) _ | refine bt ?_ (by assumption)))))).mono ?_; rintro _ w6 ⟨rfl, hb6⟩; rw [H2.out]; have Hx6 := Lib.hid (Hx5.out.step hb6); clear a0; have a0 : w6.cell? ⟨w.heap.size, 0, none⟩ = some (.slice aa fs.length ca) := Hx6.out.cell 0; have hlt6 := Hx6.out.lt)
    | (go_at_call 145; refine (spec_names _ fs D _ (Hr.out.below (by have := Hx6.out.below; (repeat (with_reducible first | exact Below.refl _ _ | assumption | refine ba ?_ _ | refine bd ?_ | refine bdN ?_ _ | refine bs ?_ (by first | exact Nat.le_refl _ | (dsimp only; omega) | (simp; done)) _ | refine bt ?_ (by assumption))))) Hz.out Ht.out).mono ?_; rintro _ w7 ⟨v7, rfl, hown7, hb7⟩; obtain ⟨la, lc, hv7⟩ := owns_shape hown7; subst hv7; have Hl7 := Lib.hid hown7; have Hb7 := Lib.hid hb7; clear hown7 hb7))
  have Hx7 := Lib.hid (Hx6.out.step (bt (ba (Below.refl _ _) _) Hb7.out))
  have Hown0 := Lib.hid (owns_below (World.ownsRow_made (base := w.heap.size + 1) (size := 1) (e := 9) w6 #[] 0 (by omega) (by unfold maxLen; omega) rfl) Hb7.out)
  have hst7 : w6.heap.size < (w6.alloc (.cells #[] 9)).heap.size := by simp
  generalize hLL : allNames fs = L at *
  obtain ⟨Q, hQ⟩ : ∃ Q, Q = (w6.alloc (.cells #[] 9)).heap.size := ⟨_, rfl⟩
  rw [← hQ] at Hl7 hst7
  clear hQ
  go_loopw [5, 7] (fun dv kv wr => ∃ (k : Nat), k ≤ L.length ∧ kv = .int .i64 k ∧ wr.ownsRow (w.heap.size + 1) 9 1 dv ((L.take k).filter p).length (((L.take k).filter p).map sv) ∧ Boxed w #[.slice aa fs.length ca] 31 wr ∧ wr.ownsRow Q 9 1 (.slice la L.length lc) L.length (L.map sv) ∧ (∀ b, dv.ownBlock = some b → ∀ b', (Value.slice la L.length lc).ownBlock = some b' → b ≠ b')) (fun _ kv _ => L.length - (intOf kv).toNat)
  case atStart => exact ⟨0, by omega, rfl, Hown0.out, Hx7.out, Hl7.out, fun b hb b' hb' e => by have h1 := (Hl7.out.lt b' hb').1; have h2 : w6.heap.size = b := Option.some.inj hb; omega⟩
  case round =>
    obtain ⟨k, hk, rfl, hown, hbx, hlist, hdis⟩ := hrel
    have hbel := hbx.below
    have hsz := hbx.lt
    have hA : wr.cell? ⟨w.heap.size, 0, none⟩ = some (.slice aa fs.length ca) := hbx.cell 0
    have Hown := Lib.hid hown
    have Hbx := Lib.hid hbx
    have Hbel := Lib.hid hbel
    have Hlist := Lib.hid hlist
    have Hdis := Lib.hid hdis
    clear hown hbx hdis a0 hlt6 hb5 hb6 Hx5 Hx6 Hx7 Hown0 Hb7 Hl7
    by_cases hlt : k < L.length
    · obtain ⟨gl, cl, el, hgl1, hgl2⟩ := hlist.form (by omega)
      simp only [Value.slice.injEq] at el
      obtain ⟨rfl, _, rfl⟩ := el
      have hcj : wr.cell? ⟨gl, k, none⟩ = some (.string (mk L[k])) := by
        rw [hlist.cellAt k (by omega), List.getElem?_map, List.getElem?_eq_getElem hlt]; rfl
      have hgs : gl < wr.heap.size := (hlist.lt gl rfl).2
      have hv := Hvs.out _ (List.getElem_mem hlt)
      have Hsn := Lib.hid (filter_snoc p L k hlt)
      have hll : ((L.take k).filter p).length ≤ 36 := Nat.le_trans (List.length_filter_le _ _) (by rw [List.length_take]; omega)
      have hk1 : (k : Int) < (L.length : Int) := by omega
      have hk0 : (0 : Int) ≤ (k : Int) := by omega
      obtain ⟨nm, hnm⟩ : ∃ nm, nm = L[k] := ⟨_, rfl⟩
      rw [← hnm] at hcj hv Hsn
      have Hvn := Lib.hid hv
      have hvl := vn_len hv
      have hpn : p nm = decide ((byParts fs path nm).kind ≠ 0) := by rw [Hpk.out]
      obtain ⟨sp, hsp⟩ : ∃ sp, sp = byParts fs path nm := ⟨_, rfl⟩
      rw [← hsp] at hpn
      have Hsp := Lib.hid hsp
      have Hk := Lib.hid (fun (w' : World) (hC : Below wr.heap.size wr w') => (⟨(hC.cell (p := ⟨w.heap.size, 0, none⟩) hsz).trans hA, (hC.cell (p := ⟨gl, k, none⟩) hgs).trans hcj, hC⟩ : w'.cell? ⟨w.heap.size, 0, none⟩ = some (.slice aa fs.length ca) ∧ w'.cell? ⟨gl, k, none⟩ = some (.string (mk nm)) ∧ Below wr.heap.size wr w'))
      clear hv hnm hsp hlist hbel
      generalize (L.take k).filter p = ds at *
      obtain ⟨sk, sf, sr⟩ := sp
      dsimp only at hpn
      by_cases he : sk = 0
      · have Hs2 := Lib.hid (show (L.take (k + 1)).filter p = ds by rw [Hsn.out, hpn]; simp [he])
        subst he
        clear hpn
        go_wp2_with fail
        go_region_held3 (fun w' => w'.cell? ⟨w.heap.size, 0, none⟩ = some (.slice aa fs.length ca) ∧ w'.cell? ⟨gl, k, none⟩ = some (.string (mk nm)) ∧ Below wr.heap.size wr w')
          (exact Hk.out _ (by (repeat (with_reducible first | exact Below.refl _ _ | assumption | refine ba ?_ _ | refine bd ?_ | refine bdN ?_ _ | refine bs ?_ (by first | exact Nat.le_refl _ | (dsimp only; omega) | (simp; done)) _ | refine bt ?_ (by assumption)))))
          (first
            | (go_at_call 66; refine (spec_find _ fs D _ path nm _ (Hr.out.below (bt Hbel.out (by (repeat (with_reducible first | exact Below.refl _ _ | assumption | refine ba ?_ _ | refine bd ?_ | refine bdN ?_ _ | refine bs ?_ (by first | exact Nat.le_refl _ | (dsimp only; omega) | (simp; done)) _ | refine bt ?_ (by assumption)))))) Hz.out Ht.out Hvn.out (Hp.out.below (bt Hbel.out (by (repeat (with_reducible first | exact Below.refl _ _ | assumption | refine ba ?_ _ | refine bd ?_ | refine bdN ?_ _ | refine bs ?_ (by first | exact Nat.le_refl _ | (dsimp only; omega) | (simp; done)) _ | refine bt ?_ (by assumption)))))) (by omega)).mono ?_; rintro _ w9 ⟨v9, rfl, hown9, hb9⟩; rw [← Hsp.out]; rw [← Hsp.out] at hown9; dsimp only at hown9 ⊢; obtain ⟨a9, c9, hv9⟩ := owns_shape hown9; subst hv9; clear hown9))
        have Hb9 := Lib.hid (show Below wr.heap.size wr w9 by (repeat (with_reducible first | exact Below.refl _ _ | assumption | refine ba ?_ _ | refine bd ?_ | refine bdN ?_ _ | refine bs ?_ (by first | exact Nat.le_refl _ | (dsimp only; omega) | (simp; done)) _ | refine bt ?_ (by assumption))))
        clear hA hcj
        go_wp2_with fail
        go_roundw
        case rel => exact ⟨k + 1, by omega, by go_num, by rw [Hs2.out]; exact owns_below Hown.out Hb9.out, Hbx.out.step Hb9.out, owns_below Hlist.out Hb9.out, Hdis.out⟩
        case measure => simp [intOf]; omega
      · have Hs2 := Lib.hid (show (L.take (k + 1)).filter p = ds ++ [nm] by rw [Hsn.out, hpn]; simp [he])
        have hne : (sk == (0 : Int)) = false := by rw [beq_eq_false_iff_ne]; exact he
        have hne2 : (sk != (0 : Int)) = true := by rw [bne, hne]; rfl
        clear he hpn
        go_wp2_with fail
        go_region_held3 (fun w' => w'.cell? ⟨w.heap.size, 0, none⟩ = some (.slice aa fs.length ca) ∧ w'.cell? ⟨gl, k, none⟩ = some (.string (mk nm)) ∧ Below wr.heap.size wr w')
          (exact Hk.out _ (by (repeat (with_reducible first | exact Below.refl _ _ | assumption | refine ba ?_ _ | refine bd ?_ | refine bdN ?_ _ | refine bs ?_ (by first | exact Nat.le_refl _ | (dsimp only; omega) | (simp; done)) _ | refine bt ?_ (by assumption)))))
          (first
            | (go_at_call 66; refine (spec_find _ fs D _ path nm _ (Hr.out.below (bt Hbel.out (by (repeat (with_reducible first | exact Below.refl _ _ | assumption | refine ba ?_ _ | refine bd ?_ | refine bdN ?_ _ | refine bs ?_ (by first | exact Nat.le_refl _ | (dsimp only; omega) | (simp; done)) _ | refine bt ?_ (by assumption)))))) Hz.out Ht.out Hvn.out (Hp.out.below (bt Hbel.out (by (repeat (with_reducible first | exact Below.refl _ _ | assumption | refine ba ?_ _ | refine bd ?_ | refine bdN ?_ _ | refine bs ?_ (by first | exact Nat.le_refl _ | (dsimp only; omega) | (simp; done)) _ | refine bt ?_ (by assumption)))))) (by omega)).mono ?_; rintro _ w9 ⟨v9, rfl, hown9, hb9⟩; rw [← Hsp.out]; rw [← Hsp.out] at hown9; dsimp only at hown9 ⊢; obtain ⟨a9, c9, hv9⟩ := owns_shape hown9; subst hv9; clear hown9))
        have Hb9 := Lib.hid (show Below wr.heap.size wr w9 by (repeat (with_reducible first | exact Below.refl _ _ | assumption | refine ba ?_ _ | refine bd ?_ | refine bdN ?_ _ | refine bs ?_ (by first | exact Nat.le_refl _ | (dsimp only; omega) | (simp; done)) _ | refine bt ?_ (by assumption))))
        have hz9 := Hb9.out.size
        clear hA hcj
        obtain ⟨hA, hcj, _⟩ := Hk.out w9 Hb9.out
        go_wp2_with (at_builtin; refine wpList_append_own_at _ rfl _ _ 27 rfl (w.heap.size + 1) 9 i0 (.string ByteArray.empty) 1 16 Tryz.underlying27 Hi.out Hz0.out Hz1.out Hz2.out rfl (by decide) _ ds.length _ rfl ((owns_below Hown.out Hb9.out).alloc _) ⟨_, 0, none⟩ 1 1 [.string (mk nm)] rfl rfl (new_one (by first | rfl | simp)) (fun x hx => by simp at hx; subst hx; rfl) (by unfold maxLen; omega) (by omega) (by simp; omega) ?_; intro v8 w8 hown8 hgrow8 hnil8 hat8)
        have Hx8 := Lib.hid (below_first Hbx.out (ba Hb9.out _) hgrow8 (fun g hg => (Hown.out.lt g hg).1))
        have Hown8 := Lib.hid (show w8.ownsRow (w.heap.size + 1) 9 1 v8 (ds ++ [nm]).length ((ds ++ [nm]).map sv) by rw [List.length_append, List.map_append]; exact hown8)
        have Hl8 := Lib.hid (owns_turned Hlist.out (((Turned.of_below (S := fun b => Value.ownBlock u5 = some b) Hb9.out).alloc _).grown hgrow8 (fun j e _ => e)) (fun b hb hs => Hdis.out b hs b hb rfl))
        have Hd8 := Lib.hid (show ∀ b, v8.ownBlock = some b → ∀ b', (Value.slice (some ⟨gl, 0, none⟩) L.length lc).ownBlock = some b' → b ≠ b' from fun b hb b' hb' e => by
          rcases hat8 with h | h
          · have h' : v8.ownBlock = Value.ownBlock u5 := h
            exact Hdis.out b (by rw [← h']; exact hb) b' hb' e
          · have h' : v8.ownBlock = some (w9.alloc (.cells #[.string (mk nm)] 9)).heap.size := h
            rw [h'] at hb
            have h1 := (Hlist.out.lt b' hb').2
            have h2 := Option.some.inj hb
            simp at h2
            omega)
        clear hown8 hgrow8 hnil8 hat8
        go_roundw
        case rel => exact ⟨k + 1, by omega, by go_num, by rw [Hs2.out]; exact Hown8.out, Hx8.out, Hl8.out, Hd8.out⟩
        case measure => simp [intOf]; omega
    · obtain rfl : k = L.length := by omega
      have Hf := Lib.hid (show (L.take L.length).filter p = foundNames fs path by rw [List.take_length]; exact Hh.out)
      clear hlist
      go_wp2_with fail
      go_ret
      exact ⟨_, rfl, owns_mono (by rw [← Hf.out]; exact Hown.out) (by omega), hbel⟩

/-! ### Contracts of the program's functions that list the names that are found. -/
theorem owns_kept {S : Nat → Prop} {w w' : World} {B e size n : Nat} {u : Value} {xs : List Value} (h : w.ownsRow B e size u n xs) (ht : Turned S w w') (hs : ∀ b, u.ownBlock = some b → ¬ S b) : w'.ownsRow B e size u n xs :=
  owns_heap h (fun b hb => ht.block b (h.lt b hb).2 (hs b hb))
/-- The tree and the path that a closure has captured. -/
def LookAt (w : World) (v pv : Value) (B C : Nat) : Prop := B < w.heap.size ∧ C < w.heap.size ∧ w.cell? ⟨B, 0, none⟩ = some v ∧ w.cell? ⟨C, 0, none⟩ = some pv
theorem LookAt.below {w w' : World} {v pv : Value} {B C : Nat} (h : LookAt w v pv B C) (hb : Below w.heap.size w w') : LookAt w' v pv B C :=
  ⟨Nat.lt_of_lt_of_le h.1 hb.size, Nat.lt_of_lt_of_le h.2.1 hb.size, (hb.cell (p := ⟨B, 0, none⟩) h.1).trans h.2.2.1, (hb.cell (p := ⟨C, 0, none⟩) h.2.1).trans h.2.2.2⟩
/-- What is kept. -/
def keepN (fs : List Fil) (path : List Int) (s : Bs) : Bool := decide ((byParts fs path s).kind ≠ 0)
set_option maxRecDepth 100000 in
set_option maxHeartbeats 1000000 in
theorem impl_FoundNames1 (v : Value) (fs : List Fil) (D : Nat → Prop) (pv : Value) (path : List Int) (s : Bs) (B C : Nat) (w : World) (hr : FilsIn w D v fs) (hz : ShortT 2000000 fs) (ht : okTree fs = true) (hp : IntsIn w pv path) (hpl : path.length ≤ 100) (hsl : s.length ≤ 8000000) (hlk : LookAt w v pv B C) :
    Calls Tryz.prog 104 #[.string (mk s), .pointer (some ⟨B, 0, none⟩), .pointer (some ⟨C, 0, none⟩)] w fun e w' => e = .returned (.bool (!keepN fs path s)) ∧ Below w.heap.size w w' := by
  have Hr := Lib.hid hr
  have Hz := Lib.hid hz
  have Ht := Lib.hid ht
  have Hp := Lib.hid hp
  have hf0 := fld0
  obtain ⟨h0, h1, h2, h3⟩ := hlk
  obtain ⟨aa, ca, rfl, hl, hm⟩ := hr.len
  obtain ⟨pa, pc, rfl, hl1, hm1⟩ := hp.len
  clear hr hz ht hp hl hm hl1 hm1
  obtain ⟨sp, hsp⟩ : ∃ sp, sp = byParts fs path s := ⟨_, rfl⟩
  have Hsp := Lib.hid hsp
  have Hke := Lib.hid (show (!keepN fs path s) = (sp.kind == 0) by unfold keepN; rw [← hsp]; by_cases h : sp.kind = 0 <;> simp [h])
  clear hsp
  obtain ⟨sk, sf, sr⟩ := sp
  dsimp only at Hke
  go_enter Tryz.func104, Tryz.ntmps104
  go_wp2_with (go_at_call 105; refine (impl_findByParts _ fs D _ path s _ (Hr.out.below (by (repeat (with_reducible first | exact Below.refl _ _ | assumption | refine ba ?_ _ | refine bd ?_ | refine bdN ?_ _ | refine bs ?_ (by first | exact Nat.le_refl _ | (dsimp only; omega) | (simp; done)) _ | refine bt ?_ (by assumption))))) Hz.out Ht.out (Hp.out.below (by (repeat (with_reducible first | exact Below.refl _ _ | assumption | refine ba ?_ _ | refine bd ?_ | refine bdN ?_ _ | refine bs ?_ (by first | exact Nat.le_refl _ | (dsimp only; omega) | (simp; done)) _ | refine bt ?_ (by assumption))))) hpl hsl).mono ?_; rintro _ w6 ⟨v6, rfl, hown6, hb6⟩; rw [← Hsp.out]; rw [← Hsp.out] at hown6; dsimp only at hown6 ⊢; obtain ⟨a6, c6, hv6⟩ := owns_shape hown6; subst hv6; clear hown6)
  go_ret
  rw [Hke.out]
  exact ⟨rfl, by (repeat (with_reducible first | exact Below.refl _ _ | assumption | refine ba ?_ _ | refine bd ?_ | refine bdN ?_ _ | refine bs ?_ (by first | exact Nat.le_refl _ | (dsimp only; omega) | (simp; done)) _ | refine bt ?_ (by assumption)))⟩

set_option maxRecDepth 100000 in
set_option maxHeartbeats 1000000 in
theorem slices_IndexS (W : World) (v : Value) (fs : List Fil) (D : Nat → Prop) (pv : Value) (path : List Int) (B C : Nat) (a : Option Addr) (ca N : Nat) (xs : List Bs) (w : World) (hW : Below W.heap.size W w) (hr : FilsIn W D v fs) (hz : ShortT 2000000 fs) (ht : okTree fs = true) (hp : IntsIn W pv path) (hpl : path.length ≤ 100) (hlk : LookAt W v pv B C)
    (hx : ∀ s ∈ xs, s.length ≤ 8000000) (hown : w.ownsRow N 9 1 (.slice a xs.length ca) xs.length (xs.map sv)) (hn : xs.length ≤ 1000000) :
    Calls Tryz.prog 143 #[.slice a xs.length ca, .func (.func 104) #[] #[.pointer (some ⟨B, 0, none⟩), .pointer (some ⟨C, 0, none⟩)]] w
      fun e w' => (∃ r : Nat, r ≤ xs.length ∧ e = .returned (.int .i64 (if r = xs.length then -1 else r)) ∧ (∀ j (h : j < xs.length), j < r → keepN fs path xs[j] = true) ∧ (∀ h : r < xs.length, keepN fs path xs[r] = false)) ∧ Below w.heap.size w w' := by
  have Hr := Lib.hid hr
  have Hz := Lib.hid hz
  have Ht := Lib.hid ht
  have Hp := Lib.hid hp
  have Hlk := Lib.hid hlk
  have HW := Lib.hid hW
  have Hx := Lib.hid hx
  have Hown := Lib.hid hown
  clear hr hz ht hp hlk hW hx hown
  go_enter Tryz.func143, Tryz.ntmps143
  go_wp2_with fail
  go_loopw [8] (fun iv wr => ∃ k : Nat, k ≤ xs.length ∧ iv = .int .i64 k ∧ Below w.heap.size w wr ∧ ∀ j (h : j < xs.length), j < k → keepN fs path xs[j] = true) (fun iv _ => xs.length - (intOf iv).toNat)
  case atStart => exact ⟨0, by omega, rfl, Below.refl _ _, fun i _ h => absurd h (by omega)⟩
  case round =>
    obtain ⟨k, hk, rfl, hbel, ha⟩ := hrel
    have Ha := Lib.hid ha
    clear ha
    by_cases hlt : k < xs.length
    · have Hbel := Lib.hid hbel
      have hown := owns_below Hown.out hbel
      obtain ⟨g, cap, e1, hg, hg2⟩ := hown.form (by omega)
      simp only [Value.slice.injEq] at e1
      obtain ⟨rfl, _, rfl⟩ := e1
      have hcell : wr.cell? ⟨g, k, none⟩ = some (.string (mk xs[k])) := by
        rw [hown.cellAt k (by omega), List.getElem?_map, List.getElem?_eq_getElem hlt]; rfl
      have hsl := Hx.out _ (List.getElem_mem hlt)
      have Hn := Lib.hid (fun (h : keepN fs path xs[k] = true) j (hj : j < xs.length) (hjk : j < k + 1) => (by
        by_cases e : j = k
        · subst e; exact h
        · exact Ha.out j hj (by omega) : keepN fs path xs[j] = true))
      have Hf := Lib.hid (fun (h : keepN fs path xs[k] = false) (_ : k < xs.length) => h)
      clear hown hbel
      obtain ⟨s, hs⟩ : ∃ s, s = xs[k] := ⟨_, rfl⟩
      rw [← hs] at hcell hsl
      have Hs := Lib.hid hs
      clear hs
      cases hq : keepN fs path s
      · have Hq := Lib.hid hq
        clear hq
        go_wp2_with (go_at_call 104; refine (impl_FoundNames1 _ fs D _ path s B C _ (Hr.out.below (bt HW.out (bt Hbel.out (by (repeat (with_reducible first | exact Below.refl _ _ | assumption | refine ba ?_ _ | refine bd ?_ | refine bdN ?_ _ | refine bs ?_ (by first | exact Nat.le_refl _ | (dsimp only; omega) | (simp; done)) _ | refine bt ?_ (by assumption))))))) Hz.out Ht.out (Hp.out.below (bt HW.out (bt Hbel.out (by (repeat (with_reducible first | exact Below.refl _ _ | assumption | refine ba ?_ _ | refine bd ?_ | refine bdN ?_ _ | refine bs ?_ (by first | exact Nat.le_refl _ | (dsimp only; omega) | (simp; done)) _ | refine bt ?_ (by assumption))))))) hpl hsl (Hlk.out.below (bt HW.out (bt Hbel.out (by (repeat (with_reducible first | exact Below.refl _ _ | assumption | refine ba ?_ _ | refine bd ?_ | refine bdN ?_ _ | refine bs ?_ (by first | exact Nat.le_refl _ | (dsimp only; omega) | (simp; done)) _ | refine bt ?_ (by assumption)))))))).mono ?_; rintro _ w6 ⟨rfl, hb6⟩; rw [Hq.out])
        go_ret
        refine ⟨⟨k, by omega, ?_, fun j h1 h2 => Ha.out j h1 h2, fun h => by rw [← Hs.out]; exact Hq.out⟩, bt Hbel.out (by (repeat (with_reducible first | exact Below.refl _ _ | assumption | refine ba ?_ _ | refine bd ?_ | refine bdN ?_ _ | refine bs ?_ (by first | exact Nat.le_refl _ | (dsimp only; omega) | (simp; done)) _ | refine bt ?_ (by assumption))))⟩
        rw [if_neg (by omega)]; rfl
      · have Hq := Lib.hid hq
        clear hq
        go_wp2_with (go_at_call 104; refine (impl_FoundNames1 _ fs D _ path s B C _ (Hr.out.below (bt HW.out (bt Hbel.out (by (repeat (with_reducible first | exact Below.refl _ _ | assumption | refine ba ?_ _ | refine bd ?_ | refine bdN ?_ _ | refine bs ?_ (by first | exact Nat.le_refl _ | (dsimp only; omega) | (simp; done)) _ | refine bt ?_ (by assumption))))))) Hz.out Ht.out (Hp.out.below (bt HW.out (bt Hbel.out (by (repeat (with_reducible first | exact Below.refl _ _ | assumption | refine ba ?_ _ | refine bd ?_ | refine bdN ?_ _ | refine bs ?_ (by first | exact Nat.le_refl _ | (dsimp only; omega) | (simp; done)) _ | refine bt ?_ (by assumption))))))) hpl hsl (Hlk.out.below (bt HW.out (bt Hbel.out (by (repeat (with_reducible first | exact Below.refl _ _ | assumption | refine ba ?_ _ | refine bd ?_ | refine bdN ?_ _ | refine bs ?_ (by first | exact Nat.le_refl _ | (dsimp only; omega) | (simp; done)) _ | refine bt ?_ (by assumption)))))))).mono ?_; rintro _ w6 ⟨rfl, hb6⟩; rw [Hq.out])
        go_roundw
        case rel => exact ⟨k + 1, by omega, by go_num, bt Hbel.out (by (repeat (with_reducible first | exact Below.refl _ _ | assumption | refine ba ?_ _ | refine bd ?_ | refine bdN ?_ _ | refine bs ?_ (by first | exact Nat.le_refl _ | (dsimp only; omega) | (simp; done)) _ | refine bt ?_ (by assumption)))), Hn.out (by rw [← Hs.out]; exact Hq.out)⟩
        case measure => simp [intOf]; omega
    · obtain rfl : k = xs.length := by omega
      go_wp2_with fail
      go_ret
      exact ⟨⟨xs.length, Nat.le_refl _, by rw [if_pos rfl]; rfl, fun j h1 h2 => Ha.out j h1 h2, fun h => absurd h (by omega)⟩, hbel⟩

/-- The cells behind the first ones of an owned row are written. -/
theorem owns_tail {N T g n cap : Nat} : ∀ (vs : List Value) (o : Nat) (w : World) (xs : List Value), w.ownsRow N T 1 (.slice (some ⟨g, 0, none⟩) n cap) n xs → ∃ ys, (w.setCells g o vs).ownsRow N T 1 (.slice (some ⟨g, 0, none⟩) n cap) n ys ∧ ys.take o = xs.take o
  | [], _, _, xs, h => ⟨xs, h, rfl⟩
  | u :: r, o, w, xs, h => by
    obtain ⟨ys, h1, h2⟩ := owns_tail r (o + 1) (w.setCell ⟨g, o, none⟩ u) (xs.set o u) (h.stored o u).1
    refine ⟨ys, h1, ?_⟩
    have h3 := congrArg (List.take o) h2
    rw [List.take_take, List.take_take, Nat.min_eq_left (by omega), List.take_set_of_le (by omega)] at h3
    exact h3
theorem below_tail {N g : Nat} (hg : N ≤ g) : ∀ (vs : List Value) (o : Nat) {a w : World}, Below N a w → Below N a (w.setCells g o vs)
  | [], _, _, _, h => h
  | u :: r, o, _, _, h => below_tail hg r (o + 1) (h.setCell (p := ⟨g, o, none⟩) hg u)
theorem keep_set {ys xs : List Bs} {m i : Nat} {q : Bs → Bool} (hm : m < i) (hi : i < xs.length) (hl : ys.length = xs.length) (h1 : ys.take m = (xs.take i).filter q) (h2 : ys.drop i = xs.drop i) (hq : q xs[i] = true) :
    (ys.set m xs[i]).take (m + 1) = (xs.take (i + 1)).filter q ∧ (ys.set m xs[i]).drop (i + 1) = xs.drop (i + 1) := by
  constructor
  · rw [filter_snoc q xs i hi, if_pos hq, ← h1, List.take_succ_eq_append_getElem (by rw [List.length_set]; omega), List.take_set_of_le (by omega), List.getElem_set_self]
  · rw [List.drop_set_of_lt (by omega)]
    have := congrArg (List.drop 1) h2
    simpa [List.drop_drop] using this
theorem keep_not {ys xs : List Bs} {m i : Nat} {q : Bs → Bool} (hi : i < xs.length) (h1 : ys.take m = (xs.take i).filter q) (h2 : ys.drop i = xs.drop i) (hq : q xs[i] = false) :
    ys.take m = (xs.take (i + 1)).filter q ∧ ys.drop (i + 1) = xs.drop (i + 1) := by
  constructor
  · rw [filter_snoc q xs i hi, if_neg (by rw [hq]; simp), List.append_nil, h1]
  · have := congrArg (List.drop 1) h2
    simpa [List.drop_drop] using this
theorem keep_here {ys xs : List Bs} {i : Nat} (hi : i < xs.length) (hl : ys.length = xs.length) (h2 : ys.drop i = xs.drop i) : ys[i]'(by omega) = xs[i] := by
  have := congrArg (fun l => l[0]?) h2
  simp only [List.getElem?_drop, Nat.add_zero] at this
  rw [List.getElem?_eq_getElem (by omega), List.getElem?_eq_getElem hi] at this
  exact Option.some.inj this
theorem strZero (w : World) : (zeroValue 9).run Tryz.prog w = .ok (.string ByteArray.empty) w := by kernel_rfl
set_option maxRecDepth 100000 in
set_option maxHeartbeats 2000000 in
theorem slices_DeleteS (W : World) (v : Value) (fs : List Fil) (D : Nat → Prop) (pv : Value) (path : List Int) (B C : Nat) (a : Option Addr) (ca : Nat) (xs : List Bs) (w : World) (hW : Below W.heap.size W w) (hr : FilsIn W D v fs) (hz : ShortT 2000000 fs) (ht : okTree fs = true) (hp : IntsIn W pv path) (hpl : path.length ≤ 100) (hlk : LookAt W v pv B C)
    (hx : ∀ s ∈ xs, s.length ≤ 8000000) (hown : w.ownsRow W.heap.size 9 1 (.slice a xs.length ca) xs.length (xs.map sv)) (hn : xs.length ≤ 1000000) :
    Calls Tryz.prog 95 #[.slice a xs.length ca, .func (.func 104) #[] #[.pointer (some ⟨B, 0, none⟩), .pointer (some ⟨C, 0, none⟩)]] w
      fun e w' => (∃ v', e = .returned v' ∧ w'.ownsRow W.heap.size 9 1 v' (xs.filter (keepN fs path)).length ((xs.filter (keepN fs path)).map sv)) ∧ Below W.heap.size W w' := by
  have Hr := Lib.hid hr
  have Hz := Lib.hid hz
  have Ht := Lib.hid ht
  have Hp := Lib.hid hp
  have Hlk := Lib.hid hlk
  have HW := Lib.hid hW
  have Hx := Lib.hid hx
  have Hown := Lib.hid hown
  clear hr hz ht hp hlk hW hx hown
  by_cases hall : ∀ s ∈ xs, keepN fs path s = true
  · have Hall := Lib.hid hall
    clear hall
    go_enter Tryz.func95, Tryz.ntmps95
    go_wp2_with (go_at_call 143; refine (slices_IndexS W _ fs D _ path B C a ca _ xs _ HW.out Hr.out Hz.out Ht.out Hp.out hpl Hlk.out Hx.out Hown.out hn).mono ?_; rintro _ w5 ⟨⟨r, hrn, rfl, hr1, hr2⟩, hb5⟩; have hre : r = xs.length := Classical.byContradiction (fun h => by have h1 := hr2 (by omega); rw [Hall.out _ (List.getElem_mem (by omega))] at h1; cases h1); rw [if_pos hre]; have Hb5 := Lib.hid (bt HW.out hb5); have Hown5 := Lib.hid (owns_below Hown.out hb5); have Hr1 := Lib.hid hr1; have Hr2 := Lib.hid hr2; clear hr1 hr2 hb5)
    go_ret
    exact ⟨⟨_, rfl, by rw [List.filter_eq_self.2 Hall.out]; exact Hown5.out⟩, Hb5.out⟩
  · have Hno := Lib.hid hall
    clear hall
    go_enter Tryz.func95, Tryz.ntmps95
    go_wp2_with (go_at_call 143; refine (slices_IndexS W _ fs D _ path B C a ca _ xs _ HW.out Hr.out Hz.out Ht.out Hp.out hpl Hlk.out Hx.out Hown.out hn).mono ?_; rintro _ w5 ⟨⟨r, hrn, rfl, hr1, hr2⟩, hb5⟩; have hre : r < xs.length := Classical.byContradiction (fun h => Hno.out (fun s hs => by obtain ⟨j, hj, e⟩ := List.getElem_of_mem hs; rw [← e]; exact hr1 j hj (by omega))); have hrm : ((r : Int) == -1) = false := (by rw [beq_eq_false_iff_ne]; omega); rw [if_neg (by omega)]; have Hb5 := Lib.hid (bt HW.out hb5); have Hown5 := Lib.hid (owns_below Hown.out hb5); have Hr1 := Lib.hid hr1; have Hr2 := Lib.hid hr2; clear hr1 hr2 hb5)
    obtain ⟨g, cap, e1, hg, hg2⟩ := Hown5.out.form (by omega)
    simp only [Value.slice.injEq] at e1
    obtain ⟨rfl, _, rfl⟩ := e1
    clear Hown HW
    have Hst := Lib.hid (show xs.take r = (xs.take (r + 1)).filter (keepN fs path) by
      rw [filter_snoc _ xs r hre, if_neg (by rw [Hr2.out hre]; simp), List.append_nil]
      exact (List.filter_eq_self.2 (fun x hx => by
        obtain ⟨j, hj, e⟩ := List.getElem_of_mem hx
        rw [List.length_take] at hj
        rw [List.getElem_take] at e
        rw [← e]; exact Hr1.out j (by omega) (by omega))).symm)
    go_loopw [5, 6] (fun mv iv wr => ∃ (m i : Nat) (ys : List Bs), m < i ∧ i ≤ xs.length ∧ mv = .int .i64 m ∧ iv = .int .i64 i ∧ ys.length = xs.length ∧ ys.take m = (xs.take i).filter (keepN fs path) ∧ ys.drop i = xs.drop i ∧ wr.ownsRow W.heap.size 9 1 (.slice (some ⟨g, 0, none⟩) xs.length ca) xs.length (ys.map sv) ∧ Below W.heap.size W wr) (fun _ iv _ => xs.length - (intOf iv).toNat)
    case atStart => exact ⟨r, r + 1, xs, by omega, by omega, rfl, by go_num, rfl, Hst.out, rfl, Hown5.out, Hb5.out⟩
    case round =>
      obtain ⟨m, i, ys, hmi, hi, rfl, rfl, hl, h1, h2, hown, hbel⟩ := hrel
      have Hown := Lib.hid hown
      have Hbel := Lib.hid hbel
      have H1 := Lib.hid h1
      have H2 := Lib.hid h2
      have Hl := Lib.hid hl
      have hlw : w5.heap.size = w5.heap.size := rfl
      clear h1 h2 Hst Hr1 Hr2 Hown5 Hb5 hl hlw hre hrn hrm
      by_cases hlt : i < xs.length
      · have hcell : wr.cell? ⟨g, i, none⟩ = some (.string (mk xs[i])) := by
          rw [hown.cellAt i (by omega), List.getElem?_map, List.getElem?_eq_getElem (by rw [Hl.out]; exact hlt), keep_here hlt Hl.out H2.out]; rfl
        have hsl := Hx.out _ (List.getElem_mem hlt)
        have Hyes := Lib.hid (fun h => keep_set (q := keepN fs path) hmi hlt Hl.out H1.out H2.out h)
        have Hnot := Lib.hid (fun h => keep_not (q := keepN fs path) hlt H1.out H2.out h)
        clear hown hbel
        obtain ⟨s, hs⟩ : ∃ s, s = xs[i] := ⟨_, rfl⟩
        rw [← hs] at hcell hsl Hyes Hnot
        clear hs
        cases hq : keepN fs path s
        · have Hq := Lib.hid hq
          have Hn2 := Lib.hid (Hnot.out hq)
          clear hq
          go_wp2_with (go_at_call 104; refine (impl_FoundNames1 _ fs D _ path s B C _ (Hr.out.below (bt Hbel.out (by (repeat (with_reducible first | exact Below.refl _ _ | assumption | refine ba ?_ _ | refine bd ?_ | refine bdN ?_ _ | refine bs ?_ (by first | exact Nat.le_refl _ | (dsimp only; omega) | (simp; done)) _ | refine bt ?_ (by assumption)))))) Hz.out Ht.out (Hp.out.below (bt Hbel.out (by (repeat (with_reducible first | exact Below.refl _ _ | assumption | refine ba ?_ _ | refine bd ?_ | refine bdN ?_ _ | refine bs ?_ (by first | exact Nat.le_refl _ | (dsimp only; omega) | (simp; done)) _ | refine bt ?_ (by assumption)))))) hpl hsl (Hlk.out.below (bt Hbel.out (by (repeat (with_reducible first | exact Below.refl _ _ | assumption | refine ba ?_ _ | refine bd ?_ | refine bdN ?_ _ | refine bs ?_ (by first | exact Nat.le_refl _ | (dsimp only; omega) | (simp; done)) _ | refine bt ?_ (by assumption))))))).mono ?_; rintro _ w6 ⟨rfl, hb6⟩; rw [Hq.out])
          go_roundw
          case rel => exact ⟨m, i + 1, ys, by omega, by omega, rfl, by go_num, Hl.out, Hn2.out.1, Hn2.out.2, owns_below Hown.out (by (repeat (with_reducible first | exact Below.refl _ _ | assumption | refine ba ?_ _ | refine bd ?_ | refine bdN ?_ _ | refine bs ?_ (by first | exact Nat.le_refl _ | (dsimp only; omega) | (simp; done)) _ | refine bt ?_ (by assumption)))), bt Hbel.out (by (repeat (with_reducible first | exact Below.refl _ _ | assumption | refine ba ?_ _ | refine bd ?_ | refine bdN ?_ _ | refine bs ?_ (by first | exact Nat.le_refl _ | (dsimp only; omega) | (simp; done)) _ | refine bt ?_ (by assumption))))⟩
          case measure => simp [intOf]; omega
        · have Hq := Lib.hid hq
          have Hy2 := Lib.hid (Hyes.out hq)
          clear hq
          have hme : m < xs.length := by omega
          obtain ⟨old, ho⟩ : ∃ old, ys[m]? = some old := ⟨_, List.getElem?_eq_getElem (by rw [Hl.out]; exact hme)⟩
          have Ho := Lib.hid ho
          clear ho
          go_wp2_with (go_at_call 104; refine (impl_FoundNames1 _ fs D _ path s B C _ (Hr.out.below (bt Hbel.out (by (repeat (with_reducible first | exact Below.refl _ _ | assumption | refine ba ?_ _ | refine bd ?_ | refine bdN ?_ _ | refine bs ?_ (by first | exact Nat.le_refl _ | (dsimp only; omega) | (simp; done)) _ | refine bt ?_ (by assumption)))))) Hz.out Ht.out (Hp.out.below (bt Hbel.out (by (repeat (with_reducible first | exact Below.refl _ _ | assumption | refine ba ?_ _ | refine bd ?_ | refine bdN ?_ _ | refine bs ?_ (by first | exact Nat.le_refl _ | (dsimp only; omega) | (simp; done)) _ | refine bt ?_ (by assumption)))))) hpl hsl (Hlk.out.below (bt Hbel.out (by (repeat (with_reducible first | exact Below.refl _ _ | assumption | refine ba ?_ _ | refine bd ?_ | refine bdN ?_ _ | refine bs ?_ (by first | exact Nat.le_refl _ | (dsimp only; omega) | (simp; done)) _ | refine bt ?_ (by assumption))))))).mono ?_; rintro _ w6 ⟨rfl, hb6⟩; rw [Hq.out]; have Ho6 := Lib.hid (owns_below Hown.out (show Below wr.heap.size wr w6 by (repeat (with_reducible first | exact Below.refl _ _ | assumption | refine ba ?_ _ | refine bd ?_ | refine bdN ?_ _ | refine bs ?_ (by first | exact Nat.le_refl _ | (dsimp only; omega) | (simp; done)) _ | refine bt ?_ (by assumption))))); have hc6 : w6.cell? ⟨g, m, none⟩ = some (.string (mk old)) := (by rw [Ho6.out.cellAt m (by omega), List.getElem?_map, Ho.out]; rfl); have hf6 := Ho6.out.frozenAt m; have Hst6 := Lib.hid (Ho6.out.stored m (sv s)).1; have Hb6 := Lib.hid ((bt Hbel.out (show Below wr.heap.size wr w6 by (repeat (with_reducible first | exact Below.refl _ _ | assumption | refine ba ?_ _ | refine bd ?_ | refine bdN ?_ _ | refine bs ?_ (by first | exact Nat.le_refl _ | (dsimp only; omega) | (simp; done)) _ | refine bt ?_ (by assumption))))).setCell (p := ⟨g, m, none⟩) hg (sv s)))
          go_roundw
          case rel => exact ⟨m + 1, i + 1, ys.set m s, by omega, by omega, by go_num, by go_num, by rw [List.length_set]; exact Hl.out, Hy2.out.1, Hy2.out.2, by rw [List.map_set]; exact Hst6.out, Hb6.out⟩
          case measure => simp [intOf]; omega
      · obtain rfl : i = xs.length := by omega
        have hlc := own_cap hown
        have hmc : ¬ ca = m := by omega
        have hmca : (m : Int) ≤ (ca : Int) := by omega
        have hcl : ∀ ty, (Builtin.clear_ #[27] ty #[.slice (some ⟨g, m, none⟩) (xs.length - m) (ca - m)]).run Tryz.prog wr = .ok (.tuple #[]) (wr.setCells g m (List.replicate (xs.length - m) (.string ByteArray.empty))) := fun ty =>
          Lib.run_clear_slice wr _ _ ty _ Tryz.underlying27 strZero rfl rfl g m _ _ (by omega) (fun j hj => by rw [hown.cellAt (m + j) (by omega), List.getElem?_map, List.getElem?_eq_getElem (by rw [Hl.out]; omega)]; rfl) (fun j hj => hown.frozenAt (m + j))
        clear hown hbel
        go_wp2_with fail
        go_ret
        have h1 := H1.out
        rw [List.take_length] at h1
        have hfm : (xs.filter (keepN fs path)).length = m := by rw [← h1, List.length_take, Hl.out]; omega
        obtain ⟨zs, hz1, hz2⟩ := owns_tail (List.replicate (xs.length - m) (.string ByteArray.empty)) m wr _ Hown.out
        have hfr := own_front hz1 m (by omega)
        rw [hz2, ← List.map_take, h1] at hfr
        refine ⟨⟨_, rfl, ?_⟩, below_tail hg _ _ Hbel.out⟩
        rw [hfm]; exact hfr

theorem step_append_two {ops : Array Oper} {o : Oper} {a : Act} {w : World} {K : Act → World → Prop} {Q : Exit → Act → World → Prop} {E : Prop} (hgd : o.guard = none) (s x : Operand)
    (ho : o.op = .call { callee := .builtin .append, args := #[s, x], argTypes := #[27, 27] }) (N M : Nat) (v y : Value) (xs ys : List Bs) (hs : a.eval s = v) (hv : w.ownsRow N 9 1 v xs.length (xs.map sv)) (hx : a.eval x = y)
    (hy : w.ownsRow M 9 1 y ys.length (ys.map sv)) (hN : N ≤ w.heap.size) (hz : xs.length + ys.length ≤ 1000000)
    (h : ∀ v' w', w'.ownsRow N 9 1 v' (xs ++ ys).length ((xs ++ ys).map sv) → Below N w w' → K (a.put o.dst v') w') :
    if Region.wanted o (yielded ops a.tmps) = true then Oper.wp Tryz.prog o a w K Q else E := by
  obtain ⟨i0, hi, hz0, hz1, hz2⟩ := info_parts infoS
  have hw : Region.wanted o (yielded ops a.tmps) = true := by simp [Region.wanted, hgd]
  rw [if_pos hw]
  by_cases hnil : y = .slice none 0 0
  · subst hnil
    have hys : ys = [] := by
      rcases hy.2 with ⟨_, h0⟩ | ⟨g, cap, cur, h0, _⟩
      · exact List.length_eq_zero_iff.1 h0
      · cases h0
    subst hys
    have hrun := run_append_owned_none (P := Tryz.prog) (w := w) N 27 o.type 9 i0 1 Tryz.underlying27 hi v xs.length _ hv
    unfold Oper.wp
    simp [execOp, ho, resolve, invoke, builtin, hs, hx, hrun, Result.andThen]
    exact h v w (by simpa using hv) (Below.refl _ _)
  · obtain ⟨g, c, hyv⟩ := own_some hy hnil
    subst hyv
    have hlen := hv.lt
    obtain ⟨v', w', hr, h2, h3, h4, h5⟩ := run_append_own_at (P := Tryz.prog) (w := w) N 27 o.type 9 i0 (.string ByteArray.empty) 1 16 Tryz.underlying27 hi hz0 hz1 hz2 rfl (by decide) v xs.length _ hv ⟨g, 0, none⟩ ys.length c (ys.map sv) (by simp) (by
      intro j u hu
      have hj : j < ys.length := by have := (List.getElem?_eq_some_iff.1 hu).1; simpa using this
      rw [Addr.add_lit, Nat.zero_add, hy.cellAt j (by omega)]; exact hu) (by intro u hu; obtain ⟨b, _, rfl⟩ := List.mem_map.1 hu; rfl) (by unfold maxLen; omega) (by omega) hN
    unfold Oper.wp execOp
    simp only [ho, resolve, invoke, builtin, Sem.run_bind, Sem.run_pure, Result.andThen_ok, List.map_toArray, List.map_cons, List.map_nil, hs, hx, hr]
    exact h v' w' (by rw [List.length_append, List.map_append]; exact h2) ((Below.refl N w).grown h3 hN (fun k hk => (hlen k hk).1))
set_option maxRecDepth 100000 in
set_option maxHeartbeats 4000000 in
theorem impl_FoundNames (v : Value) (fs : List Fil) (D : Nat → Prop) (pv : Value) (path : List Int) (w : World) (hr : FilsIn w D v fs) (hz : ShortT 2000000 fs) (hp : IntsIn w pv path) :
    Calls Tryz.prog 57 #[.agg #[v], pv] w (NewStrs 9 (foundNames fs path) w) := by
  have Hr := Lib.hid hr
  have Hz := Lib.hid hz
  have Hp := Lib.hid hp
  obtain ⟨aa, ca, rfl, hl, hm⟩ := hr.len
  obtain ⟨pa, pc, rfl, hl1, hm1⟩ := hp.len
  have Hb0 := Lib.hid (Boxed2.start w #[.slice aa fs.length ca] 31 #[.slice pa path.length pc] 25)
  clear hr hz hp hl hm hl1 hm1
  cases h1 : okLook fs path
  · have H1 := Lib.hid h1
    have Hs := Lib.hid (foundNames_no h1)
    clear h1
    go_enter Tryz.func57, Tryz.ntmps57
    go_wp2_with (go_at_call 100; refine (impl_validLook _ fs D _ path _ (Hr.out.below (by (repeat (with_reducible first | exact Below.refl _ _ | assumption | refine ba ?_ _ | refine bd ?_ | refine bdN ?_ _ | refine bs ?_ (by first | exact Nat.le_refl _ | (dsimp only; omega) | (simp; done)) _ | refine bt ?_ (by assumption))))) Hz.out (Hp.out.below (by (repeat (with_reducible first | exact Below.refl _ _ | assumption | refine ba ?_ _ | refine bd ?_ | refine bdN ?_ _ | refine bs ?_ (by first | exact Nat.le_refl _ | (dsimp only; omega) | (simp; done)) _ | refine bt ?_ (by assumption)))))).mono ?_; rintro _ wr ⟨rfl, hb5⟩; rw [H1.out]; have Hx5 := Lib.hid (Hb0.out.step hb5))
    go_ret
    exact newStrs_no Hs.out Hx5.out.below
  · have H1 := Lib.hid h1
    have Ht := Lib.hid (okLook_tree h1)
    have hpl : path.length ≤ 100 := Nat.le_trans (okPath_len (okLook_path h1)) (by omega)
    have h12 := (okTree_all (okLook_tree h1)).2.2
    have Hf := Lib.hid (show (allNames fs).filter (keepN fs path) = foundNames fs path by rw [foundNames, if_pos h1]; rfl)
    have Hall := Lib.hid (allNames_eq (okLook_tree h1))
    have Hvs := Lib.hid (fun x (hx : x ∈ allNames fs) => (show x.length ≤ 8000000 from Nat.le_trans (vn_len (allNames_vn (okLook_tree h1) hx)) (by omega)))
    have hL36 : (allNames fs).length ≤ 36 := Nat.le_trans (sortUp_len _) (Nat.le_trans (nmOf_len _ (okTree_all (okLook_tree h1)).1) (by omega))
    have hm12 : (modulesOf fs).length ≤ 12 := by rw [modulesOf, if_pos (okLook_tree h1)]; exact Nat.le_trans (sortUp_len _) (by simp; omega)
    have hp36 : (packagesOf fs).length ≤ 36 := by rw [← packagesOf_at (okLook_tree h1)]; exact Nat.le_trans (sortUp_len _) (Nat.le_trans (pkOf_len _) (by omega))
    clear h1
    go_enter Tryz.func57, Tryz.ntmps57
    go_wp2_with (go_at_call 100; refine (impl_validLook _ fs D _ path _ (Hr.out.below (by (repeat (with_reducible first | exact Below.refl _ _ | assumption | refine ba ?_ _ | refine bd ?_ | refine bdN ?_ _ | refine bs ?_ (by first | exact Nat.le_refl _ | (dsimp only; omega) | (simp; done)) _ | refine bt ?_ (by assumption))))) Hz.out (Hp.out.below (by (repeat (with_reducible first | exact Below.refl _ _ | assumption | refine ba ?_ _ | refine bd ?_ | refine bdN ?_ _ | refine bs ?_ (by first | exact Nat.le_refl _ | (dsimp only; omega) | (simp; done)) _ | refine bt ?_ (by assumption)))))).mono ?_; rintro _ wr ⟨rfl, hb5⟩; rw [H1.out]; have Hx5 := Lib.hid (Hb0.out.step hb5))
    have hbel := Hx5.out.below
    have Hbel := Lib.hid hbel
    have a0 : wr.cell? ⟨w.heap.size, 0, none⟩ = some (.slice aa fs.length ca) := Hx5.out.one.cell 0
    have a1 : wr.cell? ⟨w.heap.size + 1, 0, none⟩ = some (.slice pa path.length pc) := Hx5.out.cell 0
    have hlt := Hx5.out.lt
    have hlt0 : w.heap.size < wr.heap.size := by omega
    have Hk := Lib.hid (fun (w' : World) (hC : Below wr.heap.size wr w') => (⟨(hC.cell (p := ⟨w.heap.size, 0, none⟩) hlt0).trans a0, (hC.cell (p := ⟨w.heap.size + 1, 0, none⟩) hlt).trans a1, hC⟩ : w'.cell? ⟨w.heap.size, 0, none⟩ = some (.slice aa fs.length ca) ∧ w'.cell? ⟨w.heap.size + 1, 0, none⟩ = some (.slice pa path.length pc) ∧ Below wr.heap.size wr w'))
    have Hlk := Lib.hid (show LookAt wr (.slice aa fs.length ca) (.slice pa path.length pc) w.heap.size (w.heap.size + 1) from ⟨hlt0, hlt, a0, a1⟩)
    clear hbel
    go_region_held3 (fun w' => w'.cell? ⟨w.heap.size, 0, none⟩ = some (.slice aa fs.length ca) ∧ w'.cell? ⟨w.heap.size + 1, 0, none⟩ = some (.slice pa path.length pc) ∧ Below wr.heap.size wr w')
      (first | exact Hk.out _ HbS.out | exact Hk.out _ HbA.out | exact Hk.out _ (by (repeat (with_reducible first | exact Below.refl _ _ | assumption | refine ba ?_ _ | refine bd ?_ | refine bdN ?_ _ | refine bs ?_ (by first | exact Nat.le_refl _ | (dsimp only; omega) | (simp; done)) _ | refine bt ?_ (by assumption)))))
      (first
        | (go_at_call 102; refine (impl_ModulesOf _ fs D _ (Hr.out.below (bt Hbel.out (by (repeat (with_reducible first | exact Below.refl _ _ | assumption | refine ba ?_ _ | refine bd ?_ | refine bdN ?_ _ | refine bs ?_ (by first | exact Nat.le_refl _ | (dsimp only; omega) | (simp; done)) _ | refine bt ?_ (by assumption)))))) Hz.out).mono ?_; rintro _ wM ⟨vM, rfl, hownM, hbM⟩; have HbM := Lib.hid (show Below wr.heap.size wr wM by (repeat (with_reducible first | exact Below.refl _ _ | assumption | refine ba ?_ _ | refine bd ?_ | refine bdN ?_ _ | refine bs ?_ (by first | exact Nat.le_refl _ | (dsimp only; omega) | (simp; done)) _ | refine bt ?_ (by assumption)))); have HM := Lib.hid (owns_mono hownM (show wr.heap.size ≤ _ from (show Below wr.heap.size wr _ by (repeat (with_reducible first | exact Below.refl _ _ | assumption | refine ba ?_ _ | refine bd ?_ | refine bdN ?_ _ | refine bs ?_ (by first | exact Nat.le_refl _ | (dsimp only; omega) | (simp; done)) _ | refine bt ?_ (by assumption)))).size)); (try have HP2 := Lib.hid (owns_below HP.out hbM)); clear hownM)
        | (go_at_call 103; refine (impl_PackagesOf _ fs D _ (Hr.out.below (bt Hbel.out (by (repeat (with_reducible first | exact Below.refl _ _ | assumption | refine ba ?_ _ | refine bd ?_ | refine bdN ?_ _ | refine bs ?_ (by first | exact Nat.le_refl _ | (dsimp only; omega) | (simp; done)) _ | refine bt ?_ (by assumption)))))) Hz.out).mono ?_; rintro _ wP ⟨vP, rfl, hownP, hbP⟩; have HbP := Lib.hid (show Below wr.heap.size wr wP by (repeat (with_reducible first | exact Below.refl _ _ | assumption | refine ba ?_ _ | refine bd ?_ | refine bdN ?_ _ | refine bs ?_ (by first | exact Nat.le_refl _ | (dsimp only; omega) | (simp; done)) _ | refine bt ?_ (by assumption)))); have HP := Lib.hid (owns_mono hownP (show wr.heap.size ≤ _ from (show Below wr.heap.size wr _ by (repeat (with_reducible first | exact Below.refl _ _ | assumption | refine ba ?_ _ | refine bd ?_ | refine bdN ?_ _ | refine bs ?_ (by first | exact Nat.le_refl _ | (dsimp only; omega) | (simp; done)) _ | refine bt ?_ (by assumption)))).size)); (try have HM2 := Lib.hid (owns_below HM.out hbP)); clear hownP)
        | (refine step_append_two rfl (.tmp 11) (.tmp 13) rfl wr.heap.size wr.heap.size _ _ (modulesOf fs) (packagesOf fs) rfl (by first | exact HM2.out | exact HM.out) rfl (by first | exact HP2.out | exact HP.out) (show Below wr.heap.size wr _ by (repeat (with_reducible first | exact Below.refl _ _ | assumption | refine ba ?_ _ | refine bd ?_ | refine bdN ?_ _ | refine bs ?_ (by first | exact Nat.le_refl _ | (dsimp only; omega) | (simp; done)) _ | refine bt ?_ (by assumption)))).size (by omega) ?_; intro vA wA hownA hbA; have HA := Lib.hid hownA; have HbA := Lib.hid (show Below wr.heap.size wr wA from Below.trans (by (repeat (with_reducible first | exact Below.refl _ _ | assumption | refine ba ?_ _ | refine bd ?_ | refine bdN ?_ _ | refine bs ?_ (by first | exact Nat.le_refl _ | (dsimp only; omega) | (simp; done)) _ | refine bt ?_ (by assumption)))) hbA); clear hownA)
        | (go_at_call 101; refine (impl_ascending wr.heap.size _ _ _ HA.out HbA.out.size (by rw [List.length_append]; omega)).mono ?_; rintro _ wS ⟨vS, rfl, hownS, hbS⟩; rw [Hall.out] at hownS; obtain ⟨aS, cS, hvS⟩ := owns_shape hownS; subst hvS; have HS := Lib.hid hownS; have HbS := Lib.hid (HbA.out.trans hbS); clear hownS))
    have hmf : ∀ (fn : Fn) (first cap : Array Value) (w : World), (Instr.makeFunc fn first cap).run Tryz.prog w = .ok (.func fn first cap) w := fun _ _ _ _ => rfl
    go_wp2_with (go_at_call 95; refine (slices_DeleteS wr _ fs D _ path _ _ aS cS (allNames fs) _ HbS.out (Hr.out.below Hbel.out) Hz.out Ht.out (Hp.out.below Hbel.out) hpl Hlk.out Hvs.out HS.out (by omega)).mono ?_; rintro _ wD ⟨⟨vD, rfl, hownD⟩, hbD⟩; rw [Hf.out] at hownD; have HD := Lib.hid (owns_mono hownD Hbel.out.size); have HbD := Lib.hid (bt Hbel.out hbD); clear hownD)
    go_ret
    exact ⟨_, rfl, HD.out, HbD.out⟩
end Go.Proofs.YtcmnldomcpjlcaaGreat
