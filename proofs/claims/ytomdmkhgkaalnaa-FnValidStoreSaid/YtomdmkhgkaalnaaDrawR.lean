/- Parts, names and statements that are drawn are valid ones. -/
import Derived.Test.YtomdmkhgkaalnaaDraw
import Derived.Test.YtomdmkhgkaalnaaPlainT
set_option linter.unusedVariables false
set_option linter.unusedSimpArgs false
namespace Go.Proofs.Ytomdmkhgkaalnaa
open Go.RowKit Go.Proofs.Ytomdmkhgkaalnaa.Nm

def abc : List Bs := [[97], [98], [99]]
/-- The names of so many parts and one more. -/
def nameLst : Nat → List Bs
  | 0 => abc
  | n + 1 => (nameLst n).flatMap (fun t => abc.map (fun p => t ++ 46 :: p))
theorem nameLst_vn {m : Nat} (h : m ≤ 2) {t : Bs} (ht : t ∈ nameLst m) : vn t = true := by
  have h0 : ∀ t ∈ nameLst 0, vn t = true := by decide
  have h1 : ∀ t ∈ nameLst 1, vn t = true := by decide
  have h2 : ∀ t ∈ nameLst 2, vn t = true := by decide
  have hc : m = 0 ∨ m = 1 ∨ m = 2 := by omega
  rcases hc with rfl | rfl | rfl
  · exact h0 t ht
  · exact h1 t ht
  · exact h2 t ht
theorem nameLst_next {m : Nat} {t p : Bs} (ht : t ∈ nameLst m) (hp : p ∈ abc) : t ++ 46 :: p ∈ nameLst (m + 1) :=
  List.mem_flatMap.2 ⟨t, ht, List.mem_map.2 ⟨p, hp, rfl⟩⟩
theorem abc_vp {p : Bs} (h : p ∈ abc) : vp p = true := by
  have h0 : ∀ t ∈ abc, vp t = true := by decide
  exact h0 p h
/-- What a function that draws a text of a kind comes to. -/
def DrawSK (P : Bs → Prop) (R q c n : Nat) (w : World) (e : Ending) (w' : World) : Prop :=
  ∃ p : Bs, e = .returned (.string (mk p)) ∧ P p ∧ p.length ≤ n ∧ ∃ q', q' ≤ q + c ∧ Rd w' R q' ∧ w.grownBy w' (some R)
set_option maxRecDepth 100000 in
set_option maxHeartbeats 400000 in
theorem spec_aPartK (R q : Nat) (w : World) (hr : Rd w R q) (hq : q ≤ 1000000) :
    Calls Try.prog 130 #[.pointer (some ⟨R, 0, none⟩)] w (DrawSK (fun p => p ∈ abc) R q 1 1 w) := by
  go_enter Try.func130, Try.ntmps130
  go_wp2_with fail
  refine (reader_of R q _ [[97], [98], [99], [97], [98]] _ (hr.alloc _) (reads_lit w [[97], [98], [99], [97], [98]] 9 (by decide)) (by decide) (by decide) hq).mono ?_
  rintro e w1 ⟨p, hp, rfl, hr1, hg⟩
  have Hp := Lib.hid hp
  have Hr := Lib.hid hr1
  have Hg := Lib.hid hg
  clear hp hr1 hg
  go_wp2_with fail
  go_ret
  have h0 : ∀ p ∈ [[97], [98], [99], [97], [98]], p ∈ abc := by decide
  exact ⟨p, rfl, h0 p Hp.out, mem_len 1 (by decide) Hp.out, q + 1, Nat.le_refl _, Hr.out, gb_trans (World.grownBy_alloc w _ _) Hg.out⟩
set_option maxRecDepth 100000 in
set_option maxHeartbeats 400000 in
theorem spec_aNameK (R q : Nat) (w : World) (hr : Rd w R q) (hq : q ≤ 900000) :
    Calls Try.prog 140 #[.pointer (some ⟨R, 0, none⟩)] w (DrawSK (fun p => vn p = true) R q 4 5 w) := by
  go_enter Try.func140, Try.ntmps140
  go_wp2_with fail
  refine (spec_aPartK R q _ hr (by omega)).mono ?_
  rintro e w1 ⟨p, rfl, hpm, hp, q1, hq1, hr1, hg1⟩
  go_wp2_with fail
  have hlt := hr1.lt
  refine (reader_one R q1 w1.heap.size 3 [0, 1, 0, 1, 2] _ (hr1.alloc _) (heap_new w1 _ _) (by omega) (by decide) (by decide) (by omega)).mono ?_
  rintro e w2 ⟨n, hn, rfl, hr2, hg2⟩
  have hn' := mem_int 0 2 (by decide) hn
  have Hg := Lib.hid (gb_trans hg1 (gb_trans (World.grownBy_alloc w1 _ _) hg2))
  have Hpm := Lib.hid hpm
  clear hn hg2 hg1 hpm
  go_wp2_with fail
  go_loopw [3, 4] (fun tv nv wr => ∃ (t : Bs) (m : Nat) (k : Int) (q2 : Nat), tv = .string (mk t) ∧ nv = .int .i64 k ∧ 0 ≤ k ∧ (m : Int) + k ≤ 2 ∧ t ∈ nameLst m ∧ (t.length : Int) + 2 * k ≤ 5 ∧ (q2 : Int) + k ≤ q + 4 ∧ Rd wr R q2 ∧ w.grownBy wr (some R)) (fun _ nv _ => (intOf nv).toNat)
  case atStart => exact ⟨p, 0, n, q1 + 1, rfl, rfl, by omega, by omega, Hpm.out, by omega, by omega, hr2, Hg.out⟩
  case round =>
    obtain ⟨t, m, k, q2, rfl, rfl, hk0, hk2, htm, ht, hq2, hr3, hg3⟩ := hrel
    have Hg3 := Lib.hid hg3
    have Htm := Lib.hid htm
    clear hg3 htm
    by_cases hk : 0 < k
    · go_wp2_with fail
      refine (spec_aPartK R q2 _ hr3 (by omega)).mono ?_
      rintro e w4 ⟨p4, rfl, hpm4, hp4, q4, hq4, hr4, hg4⟩
      have Hg4 := Lib.hid (gb_trans Hg3.out hg4)
      have Ht4 := Lib.hid (nameLst_next Htm.out hpm4)
      clear hg4 hpm4
      go_wp2_with fail
      go_roundw
      case rel => exact ⟨t ++ 46 :: p4, m + 1, k - 1, q4, by simp, rfl, by omega, by omega, Ht4.out, by simp; omega, by omega, hr4, Hg4.out⟩
      case measure => simp [intOf]; omega
    · go_wp2_with fail
      go_ret
      exact ⟨t, rfl, nameLst_vn (by omega) Htm.out, by omega, q2, by omega, hr3, Hg3.out⟩

theorem vn_ne {p : Bs} (h : vn p = true) : p.isEmpty = false := by
  cases p with
  | nil => rw [vn_nil] at h; cases h
  | cons a l => rfl
theorem vpk_of {p : Bs} (h : vn p = true) : vpk p = true := by unfold vpk; rw [h]; simp
theorem okS_imp {p : Bs} (h : vn p = true) : okStm ⟨0, p, 0, [], 0⟩ = true := by simp [okStm, h]
theorem okS_star {p : Bs} (h : vn p = true) : okStm ⟨2, p, 0, [], 0⟩ = true := by simp [okStm, h]
theorem okS_from {p n : Bs} {lv : Int} (h : vn p = true) (hn : n ∈ abc) (h0 : 0 ≤ lv) (h2 : lv ≤ 2) : okStm ⟨1, p, lv, n, 0⟩ = true := by
  simp [okStm, okSrc, inr, vpk_of h, vn_ne h, abc_vp hn]; omega
theorem okS_up {n : Bs} {lv : Int} (hn : n ∈ abc) (h0 : 0 < lv) (h2 : lv ≤ 2) : okStm ⟨1, [], lv, n, 0⟩ = true := by
  simp [okStm, okSrc, inr, vpk_nil, abc_vp hn]; omega
theorem okS_set {n : Bs} {v : Int} (hn : vp n = true) (h0 : 0 ≤ v) (h2 : v < 100) : okStm ⟨3, [], 0, n, v⟩ = true := by
  simp [okStm, inr, hn]; omega
theorem okS_print {n : Bs} (hn : vp n = true) : okStm ⟨4, [], 0, n, 0⟩ = true := by simp [okStm, hn]
theorem okS_fail : okStm ⟨5, [], 0, [], 0⟩ = true := by decide
theorem mem_vp {l : List Bs} (h : ∀ p ∈ l, vp p = true) {p : Bs} (hp : p ∈ l) : vp p = true := h p hp
/-- The places of the files that are drawn. -/
theorem okF_name {rt st : Int} {p : Bs} {ss : List Stm} (hr : 0 ≤ rt ∧ rt ≤ 2) (hs : 0 ≤ st ∧ st < 100) (hb : okBody ss = true) (hp : p ∈ abc) : okFil ⟨rt, [], p, false, st, ss⟩ = true := by
  have h : ∀ p ∈ abc, (vp p && vn (child [] p)) = true := by decide
  have h1 := h p hp
  simp [okFil, inr, vpk_nil, hb] at h1 ⊢
  exact ⟨⟨⟨by omega, by omega⟩, by omega, by omega⟩, h1⟩
theorem okF_in {rt st : Int} {p n : Bs} {ss : List Stm} (hr : 0 ≤ rt ∧ rt ≤ 2) (hs : 0 ≤ st ∧ st < 100) (hb : okBody ss = true) (hp : p ∈ abc) (hn : n ∈ abc) : okFil ⟨rt, p, n, false, st, ss⟩ = true := by
  have h : ∀ p ∈ abc, ∀ n ∈ abc, (vpk p && (vp n && vn (child p n))) = true := by decide
  have h1 := h p hp n hn
  simp [okFil, inr, hb] at h1 ⊢
  exact ⟨⟨⟨⟨by omega, by omega⟩, by omega, by omega⟩, h1.1⟩, h1.2⟩
theorem okF_init {rt st : Int} {p : Bs} {ss : List Stm} (hr : 0 ≤ rt ∧ rt ≤ 2) (hs : 0 ≤ st ∧ st < 100) (hb : okBody ss = true) (hp : p ∈ abc) : okFil ⟨rt, p, [], true, st, ss⟩ = true := by
  have h : ∀ p ∈ abc, (vpk p && !p.isEmpty) = true := by decide
  have h1 := h p hp
  simp [okFil, inr, hb] at h1 ⊢
  exact ⟨⟨⟨⟨by omega, by omega⟩, by omega, by omega⟩, h1.1⟩, h1.2⟩
theorem okF_init2 {rt st : Int} {p q : Bs} {ss : List Stm} (hr : 0 ≤ rt ∧ rt ≤ 2) (hs : 0 ≤ st ∧ st < 100) (hb : okBody ss = true) (hp : p ∈ abc) (hq : q ∈ abc) : okFil ⟨rt, p ++ 46 :: q, [], true, st, ss⟩ = true := by
  have h : ∀ p ∈ abc, ∀ q ∈ abc, vpk (p ++ 46 :: q) = true := by decide
  have h1 := h p hp q hq
  simp [okFil, inr, hb, h1]
  omega
theorem okF_in2 {rt st : Int} {p q n : Bs} {ss : List Stm} (hr : 0 ≤ rt ∧ rt ≤ 2) (hs : 0 ≤ st ∧ st < 100) (hb : okBody ss = true) (hp : p ∈ abc) (hq : q ∈ abc) (hn : n ∈ abc) : okFil ⟨rt, p ++ 46 :: q, n, false, st, ss⟩ = true := by
  have h : ∀ p ∈ abc, ∀ q ∈ abc, ∀ n ∈ abc, (vpk (p ++ 46 :: q) && (vp n && vn (child (p ++ 46 :: q) n))) = true := by decide
  have h1 := h p hp q hq n hn
  simp [okFil, inr, hb] at h1 ⊢
  exact ⟨⟨⟨⟨by omega, by omega⟩, by omega, by omega⟩, h1.1⟩, h1.2⟩
end Go.Proofs.Ytomdmkhgkaalnaa
