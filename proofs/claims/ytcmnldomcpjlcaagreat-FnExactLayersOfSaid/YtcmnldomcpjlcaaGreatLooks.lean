/- Contracts of the program's functions of chapter 3 over a path. -/
import Derived.Test.YtcmnldomcpjlcaaGreatTrees
import Derived.Test.YtcmnldomcpjlcaaGreatRoot
import Derived.Test.YtcmnldomcpjlcaaGreatPlainG
import Derived.Test.YtcmnldomcpjlcaaGreatKin
set_option linter.unusedVariables false
set_option linter.unusedSimpArgs false
namespace Go.Proofs.YtcmnldomcpjlcaaGreat
open Go.RowKit Go.Proofs.YtcmnldomcpjlcaaGreat.Nm

/-! ### Contract of the program's finder part by part. -/
/-- What is found after some names. -/
def curSpc (t : List Fil) (path : List Int) (ns : List Bs) (k : Nat) : Spc := if k = 0 then noSpc else partsGo t (ns.take k) ⟨3, -1, path⟩
theorem curSpc_zero (t : List Fil) (path : List Int) (ns : List Bs) : curSpc t path ns 0 = noSpc := rfl
theorem curSpc_succ (t : List Fil) (path : List Int) (ns : List Bs) (k : Nat) (h : k < ns.length) : curSpc t path ns (k + 1) = overSpc t (partsGo t (ns.take k) ⟨3, -1, path⟩).roots ns[k] ∧ partsGo t (ns.take (k + 1)) ⟨3, -1, path⟩ = overSpc t (partsGo t (ns.take k) ⟨3, -1, path⟩).roots ns[k] := by
  have := partsGo_snoc t ns k h ⟨3, -1, path⟩
  exact ⟨by unfold curSpc; rw [if_neg (by omega)]; exact this, this⟩
theorem curSpc_end (t : List Fil) (path : List Int) (s : Bs) : curSpc t path (namesAbove s) (namesAbove s).length = byParts t path s := by
  unfold namesAbove byParts
  cases hv : vn s
  · rfl
  · simp only [if_true]
    unfold curSpc
    rw [if_neg (by have := List.length_pos_iff.2 (above_pos s); omega), List.take_length]
theorem partsGo_len {t : List Fil} {ns : List Bs} {path : List Int} : (partsGo t ns ⟨3, -1, path⟩).roots.length ≤ path.length := (partsGo_roots t ns ⟨3, -1, path⟩).length_le

/-- A find's box at a block. -/
def SpcAt (w : World) (S : Nat) (sp : Spc) (v : Value) : Prop := w.cell? ⟨S, 0, none⟩ = some (.int .i64 sp.kind) ∧ w.cell? ⟨S, 1, none⟩ = some (.int .i64 sp.file) ∧ w.cell? ⟨S, 2, none⟩ = some v ∧
  w.frozen? ⟨S, 0, none⟩ = false ∧ w.frozen? ⟨S, 1, none⟩ = false ∧ w.frozen? ⟨S, 2, none⟩ = false ∧ S < w.heap.size
theorem SpcAt.below {w w' : World} {S : Nat} {sp : Spc} {v : Value} (h : SpcAt w S sp v) (hb : Below w.heap.size w w') : SpcAt w' S sp v := by
  obtain ⟨h0, h1, h2, g0, g1, g2, hs⟩ := h
  have hc := fun o => hb.cell (p := ⟨S, o, none⟩) hs
  have hf := fun o => hb.frozen (p := ⟨S, o, none⟩) hs
  exact ⟨(hc 0).trans h0, (hc 1).trans h1, (hc 2).trans h2, (hf 0).trans g0, (hf 1).trans g1, (hf 2).trans g2, Nat.lt_of_lt_of_le hs hb.size⟩
theorem SpcAt.put {w : World} {S : Nat} {sp : Spc} {v : Value} (h : SpcAt w S sp v) (k f : Int) (r : List Int) (u : Value) :
    SpcAt (((w.setCell ⟨S, 0, none⟩ (.int .i64 k)).setCell ⟨S, 1, none⟩ (.int .i64 f)).setCell ⟨S, 2, none⟩ u) S ⟨k, f, r⟩ u := by
  obtain ⟨h0, h1, h2, g0, g1, g2, hs⟩ := h
  refine ⟨?_, ?_, ?_, ?_, ?_, ?_, ?_⟩ <;> simp [go_sem, *]
set_option maxRecDepth 100000 in
set_option maxHeartbeats 2000000 in
theorem impl_findByParts (v : Value) (fs : List Fil) (D : Nat → Prop) (pv : Value) (path : List Int) (s : Bs) (w : World) (hr : FilsIn w D v fs) (hz : ShortT 2000000 fs) (ht : okTree fs = true) (hp : IntsIn w pv path) (hpl : path.length ≤ 100) (hsl : s.length ≤ 8000000) :
    Calls Tryz.prog 105 #[.iface 98 (.agg #[v]), pv, .string (mk s)] w (NewSpc 3 (byParts fs path s) w) := by
  have Hr := Lib.hid hr
  have Hz := Lib.hid hz
  have Ht := Lib.hid ht
  have Hp := Lib.hid hp
  obtain ⟨aa, ca, rfl, hl, hm⟩ := hr.len
  obtain ⟨pa, pc, rfl, hpl1, hpm⟩ := hp.len
  have He := Lib.hid (curSpc_end fs path s)
  have Hvn := Lib.hid (fun n (h : n ∈ namesAbove s) => namesAbove_vn h)
  have hnl := namesAbove_le3 s
  obtain ⟨ns, hns⟩ : ∃ ns, ns = namesAbove s := ⟨_, rfl⟩
  rw [← hns] at He Hvn hnl
  have Hns := Lib.hid hns
  clear hr hl hm hz ht hp hns
  go_enter Tryz.func105, Tryz.ntmps105
  go_wp2_with (first
    | (go_at_call 133; refine (impl_nothing _).mono ?_; rintro _ w5 ⟨rfl, hb5⟩; have Hx5 := Lib.hid ((Boxed.start w #[.int .i64 0, .int .i64 0, .slice none 0 0] 63).step hb5); clear hb5; have Hy5 := Lib.hid (Boxed.start w5 #[.int .i64 0, .int .i64 (-1), .slice none 0 0] 63))
    | (go_at_call 44; refine (impl_NamesAbove s _ hsl).mono ?_; rintro _ w6 ⟨nv, rfl, hown6, hb6⟩; rw [← Hns.out] at hown6; have Hown6 := Lib.hid hown6; have Hb6 := Lib.hid hb6; obtain ⟨na, nc, hnv⟩ := owns_shape hown6; subst hnv; clear hown6 hb6))
  have hx5 := Hx5.out.lt
  have hs6 := Hb6.out.size
  have Hx6 := Lib.hid (Hx5.out.step (show Below w5.heap.size w5 w6 from bt (ba (Below.refl _ _) _) Hb6.out))
  have Hsp := Lib.hid (show SpcAt w6 w5.heap.size noSpc (.slice none 0 0) from SpcAt.below ⟨Hy5.out.cell 0, Hy5.out.cell 1, Hy5.out.cell 2, Hy5.out.free 0, Hy5.out.free 1, Hy5.out.free 2, Hy5.out.lt⟩ Hb6.out)
  have Hp6 := Lib.hid (Hp.out.below Hx6.out.below)
  have Hn6 := Lib.hid (owns_mono Hown6.out (show w5.heap.size + 1 ≤ _ by simp))
  go_loopw [8, 16] (fun rv kv wr => ∃ (k : Nat) (vk : Value), k ≤ ns.length ∧ kv = .int .i64 k ∧ SpcAt wr w5.heap.size (curSpc fs path ns k) vk ∧ wr.ownsRow (w.heap.size + 1) 3 1 vk (curSpc fs path ns k).roots.length ((curSpc fs path ns k).roots.map iv) ∧ IntsIn wr rv (partsGo fs (ns.take k) ⟨3, -1, path⟩).roots ∧ wr.ownsRow (w5.heap.size + 1) 9 1 (.slice na ns.length nc) ns.length (ns.map sv) ∧ Boxed w #[.int .i64 0, .int .i64 0, .slice none 0 0] 63 wr) (fun _ kv _ => ns.length - (intOf kv).toNat)
  case atStart => exact ⟨0, _, by omega, rfl, Hsp.out, World.ownsRow_nil _ _ _ _, Hp6.out, Hn6.out, Hx6.out⟩
  case round =>
    obtain ⟨k, vk, hk, rfl, hsp, hvk, hrv, hnm, hbx⟩ := hrel
    have hbel := hbx.below
    have Hvk := Lib.hid hvk
    have Hrv := Lib.hid hrv
    have Hnm := Lib.hid hnm
    have Hbx := Lib.hid hbx
    have HspA := Lib.hid hsp
    have hsW := hsp.2.2.2.2.2.2
    clear Hsp Hp6 Hn6 Hx6 hvk hrv hnm hbx hsp hs6 Hown6
    by_cases hlt : k < ns.length
    · have Hre := Lib.hid (Reads.of_owns Hnm.out)
      obtain ⟨b1, o1, c1, e1, hl1, hm1, hb1, hc1⟩ := Reads.some Hre.out (by omega)
      simp only [Value.slice.injEq] at e1
      obtain ⟨rfl, _, rfl⟩ := e1
      have hcell := hc1 k hlt
      have Hcs := Lib.hid (curSpc_succ fs path ns k hlt)
      have Hn := Lib.hid (Hvn.out _ (List.getElem_mem hlt))
      have hrl : (partsGo fs (ns.take k) ⟨3, -1, path⟩).roots.length ≤ 100 := Nat.le_trans partsGo_len hpl
      obtain ⟨n, hn⟩ : ∃ n, n = ns[k] := ⟨_, rfl⟩
      rw [← hn] at hcell Hcs Hn
      obtain ⟨rs, hrs⟩ : ∃ rs, rs = (partsGo fs (ns.take k) ⟨3, -1, path⟩).roots := ⟨_, rfl⟩
      rw [← hrs] at Hcs Hrv hrl
      obtain ⟨ra, rc, rfl, hrl1, hrm⟩ := Hrv.out.len
      clear hn hrs hc1 hl1 hm1 hrl1 hrm
      obtain ⟨q0, q1, q2, g0, g1, g2, _⟩ := HspA.out
      obtain ⟨sp, hsp⟩ : ∃ sp, sp = overSpc fs rs n := ⟨_, rfl⟩
      rw [← hsp] at Hcs
      have HspE := Lib.hid hsp
      clear hsp
      obtain ⟨sk, sf, sr⟩ := sp
      go_wp2_with (go_at_call 149; refine (impl_findOver _ fs D _ rs n _ (Hr.out.below (by (repeat (with_reducible first | exact Below.refl _ _ | assumption | refine ba ?_ _ | refine bd ?_ | refine bdN ?_ _ | refine bs ?_ (by first | exact Nat.le_refl _ | (dsimp only; omega) | (simp; done)) _ | refine bt ?_ (by assumption))))) Hz.out Ht.out Hn.out (Hrv.out.below (by (repeat (with_reducible first | exact Below.refl _ _ | assumption | refine ba ?_ _ | refine bd ?_ | refine bdN ?_ _ | refine bs ?_ (by first | exact Nat.le_refl _ | (dsimp only; omega) | (simp; done)) _ | refine bt ?_ (by assumption))))) hrl).mono ?_; rintro _ w7 ⟨v7, rfl, hown7, hb7⟩; rw [← HspE.out]; rw [← HspE.out] at hown7; dsimp only at hown7 ⊢; obtain ⟨a7, c7, hv7⟩ := owns_shape hown7; subst hv7; have Hown7 := Lib.hid hown7; have Hb7 := Lib.hid (show Below wr.heap.size wr w7 by (repeat (with_reducible first | exact Below.refl _ _ | assumption | refine ba ?_ _ | refine bd ?_ | refine bdN ?_ _ | refine bs ?_ (by first | exact Nat.le_refl _ | (dsimp only; omega) | (simp; done)) _ | refine bt ?_ (by assumption)))); have Hsp7 := Lib.hid (HspA.out.below Hb7.out); clear q0 q1 q2 g0 g1 g2 hown7 hb7; obtain ⟨q0, q1, q2, g0, g1, g2, _⟩ := Hsp7.out)
      have Hput := Lib.hid (Hsp7.out.put sk sf sr (.slice a7 sr.length c7))
      have HownF := Lib.hid (owns_mono (B' := w5.heap.size + 1) Hown7.out (by omega))
      have HnmF := Lib.hid (owns_below Hnm.out Hb7.out)
      have HbxF := Lib.hid (Hbx.out.step Hb7.out)
      clear q0 q1 q2 g0 g1 g2 hcell
      go_roundw
      case rel =>
        have ho := owns_set_low (owns_set_low (owns_set_low HownF.out (p := ⟨w5.heap.size, 0, none⟩) (by dsimp only; omega) (.int .i64 sk)) (p := ⟨w5.heap.size, 1, none⟩) (by dsimp only; omega) (.int .i64 sf)) (p := ⟨w5.heap.size, 2, none⟩) (by dsimp only; omega) (.slice a7 sr.length c7)
        refine ⟨k + 1, _, by omega, by go_num, by rw [Hcs.out.1]; exact Hput.out, by rw [Hcs.out.1]; exact owns_mono ho (by omega), by rw [Hcs.out.2]; exact IntsIn.of_owns ho, ?_, ?_⟩
        · exact owns_set_low (owns_set_low (owns_set_low HnmF.out (by dsimp only; omega) _) (by dsimp only; omega) _) (by dsimp only; omega) _
        · exact ((HbxF.out.setCell (p := ⟨w5.heap.size, 0, none⟩) (by simp; omega) _).setCell (p := ⟨w5.heap.size, 1, none⟩) (by simp; omega) _).setCell (p := ⟨w5.heap.size, 2, none⟩) (by simp; omega) _
      case measure => simp [intOf]; omega
    · obtain rfl : k = ns.length := by omega
      rw [He.out] at HspA Hvk
      obtain ⟨q0, q1, q2, g0, g1, g2, _⟩ := HspA.out
      have p0 : wr.cell? ⟨w.heap.size, 0, none⟩ = some (.int .i64 0) := Hbx.out.cell 0
      have p1 : wr.cell? ⟨w.heap.size, 1, none⟩ = some (.int .i64 0) := Hbx.out.cell 1
      have p2 : wr.cell? ⟨w.heap.size, 2, none⟩ = some (.slice none 0 0) := Hbx.out.cell 2
      have f0 := Hbx.out.free 0
      have f1 := Hbx.out.free 1
      have f2 := Hbx.out.free 2
      obtain ⟨a8, c8, hv8⟩ := owns_shape Hvk.out
      subst hv8
      go_wp2_with fail
      refine bodyPost_ret (v := .agg #[.int .i64 (byParts fs path s).kind, .int .i64 (byParts fs path s).file, .slice a8 (byParts fs path s).roots.length c8]) (by simp [results, Tryz.results105, go_sem, *]) rfl ?_
      refine ⟨_, rfl, ?_, by (repeat (with_reducible first | exact Below.refl _ _ | assumption | refine ba ?_ _ | refine bd ?_ | refine bdN ?_ _ | refine bs ?_ (by first | exact Nat.le_refl _ | (dsimp only; omega) | (simp; done)) _ | refine bt ?_ (by assumption)))⟩
      refine owns_mono (B := w.heap.size + 1) ?_ (by omega)
      (repeat (with_reducible first | refine World.ownsRow.alloc ?_ _ | refine owns_set_low ?_ (by first | (dsimp only; omega) | (simp; done) | (simp; omega)) _))
      exact Hvk.out

theorem okLook_eq (t : List Fil) (path : List Int) : okLook t path = (okPath path && okTree t) := rfl
theorem fld0 (a b : Int) (c : Option Addr) (n m : Nat) (w : World) : (Instr.field 63 (.agg #[.int .i64 a, .int .i64 b, .slice c n m]) 0).run Tryz.prog w = .ok (.int .i64 a) w := by kernel_rfl
theorem fld1 (a b : Int) (c : Option Addr) (n m : Nat) (w : World) : (Instr.field 63 (.agg #[.int .i64 a, .int .i64 b, .slice c n m]) 1).run Tryz.prog w = .ok (.int .i64 b) w := by kernel_rfl
theorem fld2 (a b : Int) (c : Option Addr) (n m : Nat) (w : World) : (Instr.field 63 (.agg #[.int .i64 a, .int .i64 b, .slice c n m]) 2).run Tryz.prog w = .ok (.slice c n m) w := by kernel_rfl
set_option maxRecDepth 100000 in
set_option maxHeartbeats 400000 in
theorem impl_validLook (v : Value) (fs : List Fil) (D : Nat → Prop) (pv : Value) (path : List Int) (w : World) (hr : FilsIn w D v fs) (hz : ShortT 2000000 fs) (hp : IntsIn w pv path) :
    Calls Tryz.prog 100 #[.agg #[v], pv] w fun e w' => e = .returned (.bool (okLook fs path)) ∧ Below w.heap.size w w' := by
  have Hr := Lib.hid hr
  have Hz := Lib.hid (short2 (B := 8000000) (by omega) hz)
  have Hp := Lib.hid hp
  obtain ⟨aa, ca, rfl, hl, hm⟩ := hr.len
  have He := Lib.hid (okLook_eq fs path)
  clear hr hz hp hl hm
  cases h1 : okPath path
  · have H1 := Lib.hid h1
    clear h1
    go_enter Tryz.func100, Tryz.ntmps100
    go_wp2_with (go_at_call 48; refine (impl_ValidPath _ path _ (Hp.out.below (by (repeat (with_reducible first | exact Below.refl _ _ | assumption | refine ba ?_ _ | refine bd ?_ | refine bdN ?_ _ | refine bs ?_ (by first | exact Nat.le_refl _ | (dsimp only; omega) | (simp; done)) _ | refine bt ?_ (by assumption)))))).mono ?_; rintro _ _ ⟨rfl, rfl⟩; rw [H1.out])
    go_ret
    exact ⟨ret_bool (by rw [He.out, H1.out]; rfl), by (repeat (with_reducible first | exact Below.refl _ _ | assumption | refine ba ?_ _ | refine bd ?_ | refine bdN ?_ _ | refine bs ?_ (by first | exact Nat.le_refl _ | (dsimp only; omega) | (simp; done)) _ | refine bt ?_ (by assumption)))⟩
  · have H1 := Lib.hid h1
    clear h1
    go_enter Tryz.func100, Tryz.ntmps100
    go_wp2_with (first
      | (go_at_call 48; refine (impl_ValidPath _ path _ (Hp.out.below (by (repeat (with_reducible first | exact Below.refl _ _ | assumption | refine ba ?_ _ | refine bd ?_ | refine bdN ?_ _ | refine bs ?_ (by first | exact Nat.le_refl _ | (dsimp only; omega) | (simp; done)) _ | refine bt ?_ (by assumption)))))).mono ?_; rintro _ _ ⟨rfl, rfl⟩; rw [H1.out])
      | (go_at_call 47; refine (impl_ValidTree _ fs D _ (Hr.out.below (by (repeat (with_reducible first | exact Below.refl _ _ | assumption | refine ba ?_ _ | refine bd ?_ | refine bdN ?_ _ | refine bs ?_ (by first | exact Nat.le_refl _ | (dsimp only; omega) | (simp; done)) _ | refine bt ?_ (by assumption))))) Hz.out).mono ?_; (rintro _ _ ⟨rfl, hb⟩; obtain ⟨hc, hf, hs⟩ := bcell hb)))
    go_ret
    exact ⟨ret_bool (by rw [He.out, H1.out]; rfl), by (repeat (with_reducible first | exact Below.refl _ _ | assumption | refine ba ?_ _ | refine bd ?_ | refine bdN ?_ _ | refine bs ?_ (by first | exact Nat.le_refl _ | (dsimp only; omega) | (simp; done)) _ | refine bt ?_ (by assumption)))⟩

set_option maxRecDepth 100000 in
set_option maxHeartbeats 1000000 in
theorem impl_FindSpec (v : Value) (fs : List Fil) (D : Nat → Prop) (pv : Value) (path : List Int) (s : Bs) (w : World) (hr : FilsIn w D v fs) (hz : ShortT 2000000 fs) (hp : IntsIn w pv path) (hsl : s.length ≤ 8000000) :
    Calls Tryz.prog 85 #[.agg #[v], pv, .string (mk s)] w (NewSpc 3 (findSpec fs path s) w) := by
  have Hr := Lib.hid hr
  have Hz := Lib.hid hz
  have Hp := Lib.hid hp
  obtain ⟨aa, ca, rfl, hl, hm⟩ := hr.len
  obtain ⟨pa, pc, rfl, hl1, hm1⟩ := hp.len
  clear hr hz hp hl hm hl1 hm1
  have hb0 := Boxed2.start w #[.slice aa fs.length ca] 31 #[.int .i64 0, .int .i64 0, .slice none 0 0] 63
  have Hk := Lib.hid (fun (w' : World) (hB : Boxed2 w #[.slice aa fs.length ca] 31 #[.int .i64 0, .int .i64 0, .slice none 0 0] 63 w') => (⟨hB.one.cell 0, hB.cell 0, hB.cell 1, hB.cell 2, hB.two.free2 0, hB.two.free2 1, hB.two.free2 2, hB.lt⟩ :
    w'.cell? ⟨w.heap.size, 0, none⟩ = some (.slice aa fs.length ca) ∧ w'.cell? ⟨w.heap.size + 1, 0, none⟩ = some (.int .i64 0) ∧ w'.cell? ⟨w.heap.size + 1, 1, none⟩ = some (.int .i64 0) ∧ w'.cell? ⟨w.heap.size + 1, 2, none⟩ = some (.slice none 0 0) ∧
    w'.frozen? ⟨w.heap.size + 1, 0, none⟩ = false ∧ w'.frozen? ⟨w.heap.size + 1, 1, none⟩ = false ∧ w'.frozen? ⟨w.heap.size + 1, 2, none⟩ = false ∧ w.heap.size + 1 < w'.heap.size))
  have Hb0 := Lib.hid hb0
  clear hb0
  cases h1 : okLook fs path
  · have H1 := Lib.hid h1
    have Hs := Lib.hid (show findSpec fs path s = noSpc by unfold findSpec; rw [h1]; rfl)
    clear h1
    go_enter Tryz.func85, Tryz.ntmps85
    go_wp2_with (first
      | (go_at_call 100; refine (impl_validLook _ fs D _ path _ (Hr.out.below (by (repeat (with_reducible first | exact Below.refl _ _ | assumption | refine ba ?_ _ | refine bd ?_ | refine bdN ?_ _ | refine bs ?_ (by first | exact Nat.le_refl _ | (dsimp only; omega) | (simp; done)) _ | refine bt ?_ (by assumption))))) Hz.out (Hp.out.below (by (repeat (with_reducible first | exact Below.refl _ _ | assumption | refine ba ?_ _ | refine bd ?_ | refine bdN ?_ _ | refine bs ?_ (by first | exact Nat.le_refl _ | (dsimp only; omega) | (simp; done)) _ | refine bt ?_ (by assumption)))))).mono ?_; rintro _ w5 ⟨rfl, hb5⟩; rw [H1.out]; have Hx5 := Lib.hid (Hb0.out.step hb5); obtain ⟨a0, c0, c1, c2, g0, g1, g2, s0⟩ := Hk.out w5 Hx5.out; clear hb5)
      | (go_at_call 133; refine (impl_nothing _).mono ?_; rintro _ w6 ⟨rfl, hb6⟩; have Hx6 := Lib.hid (Hx5.out.step hb6); clear a0 c0 c1 c2 g0 g1 g2 s0 hb6; obtain ⟨a0, c0, c1, c2, g0, g1, g2, s0⟩ := Hk.out w6 Hx6.out))
    have hbw := Hx6.out.below
    exact bodyPost_ret (v := .agg #[.int .i64 0, .int .i64 (-1), .slice none 0 0]) (by simp [results, Tryz.results85, go_sem, *]) rfl (noSpc_new Hs.out (by (repeat (with_reducible first | exact Below.refl _ _ | assumption | refine ba ?_ _ | refine bd ?_ | refine bdN ?_ _ | refine bs ?_ (by first | exact Nat.le_refl _ | (dsimp only; omega) | (simp; done)) _ | refine bt ?_ (by assumption)))))
  · have H1 := Lib.hid h1
    have Ht := Lib.hid (okLook_tree h1)
    have h3 := okPath_len (okLook_path h1)
    have Hs := Lib.hid (show findSpec fs path s = byParts fs path s by unfold findSpec; rw [h1]; rfl)
    clear h1
    go_enter Tryz.func85, Tryz.ntmps85
    go_wp2_with (first
      | (go_at_call 100; refine (impl_validLook _ fs D _ path _ (Hr.out.below (by (repeat (with_reducible first | exact Below.refl _ _ | assumption | refine ba ?_ _ | refine bd ?_ | refine bdN ?_ _ | refine bs ?_ (by first | exact Nat.le_refl _ | (dsimp only; omega) | (simp; done)) _ | refine bt ?_ (by assumption))))) Hz.out (Hp.out.below (by (repeat (with_reducible first | exact Below.refl _ _ | assumption | refine ba ?_ _ | refine bd ?_ | refine bdN ?_ _ | refine bs ?_ (by first | exact Nat.le_refl _ | (dsimp only; omega) | (simp; done)) _ | refine bt ?_ (by assumption)))))).mono ?_; rintro _ w5 ⟨rfl, hb5⟩; rw [H1.out]; have Hx5 := Lib.hid (Hb0.out.step hb5); obtain ⟨a0, c0, c1, c2, g0, g1, g2, s0⟩ := Hk.out w5 Hx5.out; clear hb5)
      | (go_at_call 105; refine (impl_findByParts _ fs D _ path s _ (Hr.out.below (by have := Hx5.out.below; (repeat (with_reducible first | exact Below.refl _ _ | assumption | refine ba ?_ _ | refine bd ?_ | refine bdN ?_ _ | refine bs ?_ (by first | exact Nat.le_refl _ | (dsimp only; omega) | (simp; done)) _ | refine bt ?_ (by assumption))))) Hz.out Ht.out (Hp.out.below (by have := Hx5.out.below; (repeat (with_reducible first | exact Below.refl _ _ | assumption | refine ba ?_ _ | refine bd ?_ | refine bdN ?_ _ | refine bs ?_ (by first | exact Nat.le_refl _ | (dsimp only; omega) | (simp; done)) _ | refine bt ?_ (by assumption))))) (by omega) hsl).mono ?_; rintro _ w6 ⟨v6, rfl, hown6, hb6⟩; rw [← Hs.out]; rw [← Hs.out] at hown6; obtain ⟨a6, c6, hv6⟩ := owns_shape hown6; subst hv6; have Hown6 := Lib.hid hown6; have Hx6 := Lib.hid (Hx5.out.step hb6); clear a0 c0 c1 c2 g0 g1 g2 s0 hown6 hb6; obtain ⟨a0, c0, c1, c2, g0, g1, g2, s0⟩ := Hk.out w6 Hx6.out))
    refine bodyPost_ret (v := .agg #[.int .i64 (findSpec fs path s).kind, .int .i64 (findSpec fs path s).file, .slice a6 (findSpec fs path s).roots.length c6]) (by simp [results, Tryz.results85, go_sem, *]) rfl ?_
    have hbw := Hx6.out.below
    have h5 := Hx5.out.lt
    refine ⟨_, rfl, ?_, by (repeat (with_reducible first | exact Below.refl _ _ | assumption | refine ba ?_ _ | refine bd ?_ | refine bdN ?_ _ | refine bs ?_ (by first | exact Nat.le_refl _ | (dsimp only; omega) | (simp; done)) _ | refine bt ?_ (by assumption)))⟩
    refine owns_mono (B := w.heap.size + 2) ?_ (by omega)
    (repeat (with_reducible first | refine World.ownsRow.alloc ?_ _ | refine owns_set_low ?_ (by first | (dsimp only; omega) | (simp; done) | (simp; omega)) _))
    exact owns_mono Hown6.out (by omega)


set_option maxRecDepth 100000 in
set_option maxHeartbeats 400000 in
theorem impl_CanFind (v : Value) (fs : List Fil) (D : Nat → Prop) (pv : Value) (path : List Int) (s : Bs) (w : World) (hr : FilsIn w D v fs) (hz : ShortT 2000000 fs) (hp : IntsIn w pv path) (hsl : s.length ≤ 8000000) :
    Calls Tryz.prog 41 #[.agg #[v], pv, .string (mk s)] w fun e w' => e = .returned (.bool (canFind fs path s)) ∧ Below w.heap.size w w' := by
  have Hr := Lib.hid hr
  have Hz := Lib.hid hz
  have Hp := Lib.hid hp
  obtain ⟨aa, ca, rfl, hl, hm⟩ := hr.len
  obtain ⟨pa, pc, rfl, hl1, hm1⟩ := hp.len
  have He := Lib.hid (show canFind fs path s = decide ((findSpec fs path s).kind ≠ 0) from rfl)
  generalize canFind fs path s = cf at *
  clear hr hz hp hl hm hl1 hm1
  have hf0 := fld0
  go_enter Tryz.func41, Tryz.ntmps41
  go_wp2_with (go_at_call 85; refine (impl_FindSpec _ fs D _ path s _ (Hr.out.below (by (repeat (with_reducible first | exact Below.refl _ _ | assumption | refine ba ?_ _ | refine bd ?_ | refine bdN ?_ _ | refine bs ?_ (by first | exact Nat.le_refl _ | (dsimp only; omega) | (simp; done)) _ | refine bt ?_ (by assumption))))) Hz.out (Hp.out.below (by (repeat (with_reducible first | exact Below.refl _ _ | assumption | refine ba ?_ _ | refine bd ?_ | refine bdN ?_ _ | refine bs ?_ (by first | exact Nat.le_refl _ | (dsimp only; omega) | (simp; done)) _ | refine bt ?_ (by assumption))))) hsl).mono ?_; rintro _ w5 ⟨v5, rfl, hown5, hb5⟩; obtain ⟨a5, c5, hv5⟩ := owns_shape hown5; subst hv5; clear hown5)
  all_goals (go_ret; refine ⟨ret_bool ?_, by (repeat (with_reducible first | exact Below.refl _ _ | assumption | refine ba ?_ _ | refine bd ?_ | refine bdN ?_ _ | refine bs ?_ (by first | exact Nat.le_refl _ | (dsimp only; omega) | (simp; done)) _ | refine bt ?_ (by assumption)))⟩; rw [He.out]; first | rfl | (rw [Bool.eq_iff_iff]; simp; done) | (rw [Bool.eq_iff_iff]; simp_all; done))

end Go.Proofs.YtcmnldomcpjlcaaGreat
