/- Disks after a change, as plain data. -/
import Derived.Test.YtgecemngfpgcoaaDskC
import Derived.Test.YtgecemngfpgcoaaDisks2
import Derived.Test.YtgecemngfpgcoaaHBox
import Derived.Test.YtgecemngfpgcoaaHasF
import Derived.Deep.RegionHeld3
import Derived.Deep.RegionLaw
import Derived.RegionCalls
set_option linter.unusedVariables false
set_option linter.unusedSimpArgs false
namespace Go.Proofs.Ytgecemngfpgcoaa
open Go.RowKit Go.Proofs.Ytgecemngfpgcoaa.Nm

/-- Directories in which those of a package and above it have a stamp. -/
def stampAll (r c : Int) (xs : List Bs) (ds : List Dr) : List Dr := xs.foldl (fun ds p => putDr ds ⟨r, p, c, []⟩) ds
theorem stampAll_snoc (r c : Int) (xs : List Bs) (ds : List Dr) (k : Nat) (h : k < xs.length) : stampAll r c (xs.take (k + 1)) ds = putDr (stampAll r c (xs.take k) ds) ⟨r, xs[k], c, []⟩ := by
  rw [List.take_succ_eq_append_getElem h, stampAll, List.foldl_append]; rfl
def changed (d : Dsk) (t : List Fil) (r : Int) (p : Bs) (k : Int) : Dsk × Bool :=
  if inr k 0 (200 - d.clock) && okDisk ⟨t, d.clock + k, stampAll r (d.clock + k) ([] :: namesAbove p) d.dirs⟩ then (⟨t, d.clock + k, stampAll r (d.clock + k) ([] :: namesAbove p) d.dirs⟩, true) else (⟨[], 0, []⟩, false)

theorem putDr_len (ds : List Dr) (d : Dr) : (putDr ds d).length ≤ ds.length + 1 := by
  unfold putDr
  split
  · rw [List.length_set]; omega
  · simp
theorem putDr_all {P : Dr → Prop} {ds : List Dr} {d : Dr} (h : ∀ x ∈ ds, P x) (hd : P d) : ∀ x ∈ putDr ds d, P x := fun x hx => by
  unfold putDr at hx
  split at hx
  · rcases List.mem_or_eq_of_mem_set hx with hx | rfl
    · exact h x hx
    · exact hd
  · rcases List.mem_append.1 hx with hx | hx
    · exact h x hx
    · simp at hx; subst hx; exact hd
theorem stampAll_all {P : Dr → Prop} {r c : Int} (hd : ∀ p, P ⟨r, p, c, []⟩) : ∀ (xs : List Bs) (ds : List Dr), (∀ x ∈ ds, P x) → ∀ x ∈ stampAll r c xs ds, P x
  | [], _, h => h
  | p :: xs, ds, h => stampAll_all hd xs (putDr ds ⟨r, p, c, []⟩) (putDr_all h (hd p))
theorem stampAll_len (r c : Int) : ∀ (xs : List Bs) (ds : List Dr), (stampAll r c xs ds).length ≤ ds.length + xs.length
  | [], ds => by simp [stampAll]
  | p :: xs, ds => by
    have h1 := stampAll_len r c xs (putDr ds ⟨r, p, c, []⟩)
    have h2 := putDr_len ds ⟨r, p, c, []⟩
    show (stampAll r c xs (putDr ds ⟨r, p, c, []⟩)).length ≤ _
    rw [List.length_cons]; omega
theorem changed_no {d : Dsk} {t : List Fil} {r : Int} {p : Bs} {k : Int} (h : inr k 0 (200 - d.clock) = false) : changed d t r p k = (⟨[], 0, []⟩, false) := by unfold changed; rw [h]; rfl
theorem stampAll_allM {P : Dr → Prop} {r c : Int} : ∀ (xs : List Bs) (ds : List Dr), (∀ p ∈ xs, P ⟨r, p, c, []⟩) → (∀ x ∈ ds, P x) → ∀ x ∈ stampAll r c xs ds, P x
  | [], _, _, h => h
  | p :: xs, ds, hp, h => stampAll_allM xs (putDr ds ⟨r, p, c, []⟩) (fun q hq => hp q (by simp [hq])) (putDr_all h (hp p (by simp)))
theorem changed_is {d : Dsk} {t : List Fil} {r : Int} {p : Bs} {k : Int} (h : inr k 0 (200 - d.clock) = true) : changed d t r p k = if okDisk ⟨t, d.clock + k, stampAll r (d.clock + k) ([] :: namesAbove p) d.dirs⟩ then (⟨t, d.clock + k, stampAll r (d.clock + k) ([] :: namesAbove p) d.dirs⟩, true) else (⟨[], 0, []⟩, false) := by unfold changed; rw [h]; rfl
/-- The packages that a change stamps are short. -/
theorem stamped_short (p : Bs) : ∀ q ∈ ([] :: namesAbove p), q.length ≤ 11 := fun q hq => by
  rcases List.mem_cons.1 hq with rfl | hq
  · exact Nat.zero_le _
  · exact vn_len (namesAbove_vn hq)
theorem okDirs_dr' {ds : List Dr} {c : Int} (h : okDirs ds c 0 = true) : ∀ d ∈ ds, d.names = [] ∧ d.pack.length ≤ 11 := fun d hd => by
  have h1 := okDirs_at h hd
  unfold okDr at h1
  simp only [Bool.and_eq_true, decide_eq_true_eq] at h1
  exact ⟨List.eq_nil_of_length_eq_zero (by omega), vpk_len h1.1.1.2⟩
/-- What a function that changes a disk comes to: the files' row from B on, the directories' rows the call's own. -/
def ChgD (B : Nat) (r : Dsk × Bool) (w : World) (e : Ending) (w' : World) : Prop :=
  ∃ v ps u qs, e = .returned (.tuple #[.agg #[v, .int .i64 r.1.clock, u], .bool r.2]) ∧ ps.map (·.1) = r.1.files ∧ qs.map (·.1) = r.1.dirs ∧ OwnFils w' B v ps ∧ OwnDirs w' w.heap.size u qs ∧ Below w.heap.size w w'
theorem chgD_no {B : Nat} {r : Dsk × Bool} {w w' : World} (h : r = (⟨[], 0, []⟩, false)) (hb : Below w.heap.size w w') : ChgD B r w (.returned (.tuple #[.agg #[.slice none 0 0, .int .i64 0, .slice none 0 0], .bool false])) w' := by
  subst h; exact ⟨_, [], _, [], rfl, rfl, rfl, ⟨World.ownsRow_nil _ _ _ _, OwnBodies.nil _ _⟩, ownDirs_nil _ _, hb⟩
/-- A box is no block of directories. -/
theorem HB.dirs {w : World} {X : Nat} {T : TypeId} {cs : Array Value} (h : HB w X T cs) (h1 : 72 ≠ T) (h2 : 9 ≠ T) {B : Nat} {u : Value} {qs : List (Dr × Value)} (hd : OwnDirs w B u qs) (i : Nat) (x : Value) : OwnDirs (w.setCell ⟨X, i, none⟩ x) B u qs :=
  ⟨owns_hbput h hd.1 h1 i x, hd.2.heap (fun b _ _ ⟨q, hq, hb⟩ => Below.heap_setCell w ⟨X, i, none⟩ x b (fun e => h.apart (hd.2.1 q hq) h2 (by rw [hb, e])))⟩
theorem dk_kept2 {w w' : World} {B B' n m : Nat} {v nv : Value} {xs ys : List Value} (hc : w.ownsRow B 9 1 nv n xs) (hr : w.ownsRow B' 72 4 v m ys) (hg : w.grownBy w' v.ownBlock) : w'.ownsRow B 9 1 nv n xs :=
  owns_heap hc (fun b hb => hg.block b (owns_block hc hb).2 (fun e => own_types (by decide) hr hc e.symm hb))
theorem fils_hb {w : World} {X : Nat} {T : TypeId} {cs : Array Value} {B : Nat} {v : Value} {ps : List (Fil × Value)} (hf : OwnFils w B v ps) (h : HB w X T cs) (h1 : 36 ≠ T) (h2 : 138 ≠ T) (i : Nat) (x : Value) : OwnFils (w.setCell ⟨X, i, none⟩ x) B v ps :=
  ⟨owns_hbput h hf.1 h1 i x, hf.2.heap (fun b _ _ ⟨q, hq, hb⟩ => Below.heap_setCell w ⟨X, i, none⟩ x b (fun e => h.apart (hf.2.1 q hq) h2 (by rw [hb, e])))⟩
set_option maxRecDepth 100000 in
set_option maxHeartbeats 4000000 in
theorem impl_changedDisk (v0 v u : Value) (fs0 : List Fil) (c k : Int) (r st : Int) (p n : Bs) (i : Bool) (bv : Value) (ps : List (Fil × Value)) (qs : List (Dr × Value)) (B B' : Nat) (w : World) (hf : OwnFils w B v ps) (hz : ShortT 2000000 (ps.map (·.1))) (hd : OwnDirs w B' u qs) (hc : inr c 0 200 = true) (hq : okDirs (qs.map (·.1)) c 0 = true) (hp : p.length ≤ 1048576) :
    Calls Try.prog 44 #[.agg #[v0, .int .i64 c, u], .agg #[v], .agg #[.int .i64 r, .string (mk p), .string (mk n), .bool i, .int .i64 st, bv], .int .i64 k] w (ChgD B (changed ⟨fs0, c, qs.map (·.1)⟩ (ps.map (·.1)) r p k) w) := by
  obtain ⟨i1, hi1, hy0, hy1, hy2⟩ := info_parts infoSD
  have Hi1 := Lib.hid hi1
  have Hy0 := Lib.hid hy0
  have Hy1 := Lib.hid hy1
  have Hy2 := Lib.hid hy2
  clear hi1 hy0 hy1 hy2
  obtain ⟨aa, ca, rfl⟩ := hf.len
  obtain ⟨ab, cb, rfl⟩ := hd.len
  have hl : qs.length ≤ 20 := by have h := okDirs_len hq; rwa [List.length_map] at h
  have Hbl := Lib.hid (show ∀ q ∈ qs, q.1.names.length ≤ 1048576 from fun q h => by rw [(okDirs_dr' hq q.1 (List.mem_map.2 ⟨q, h, rfl⟩)).1]; simp)
  have Hdr := Lib.hid (okDirs_dr' hq)
  have Hz := Lib.hid hz
  have Hf := Lib.hid hf
  have Hd := Lib.hid hd
  have hcc : 0 ≤ c ∧ c ≤ 200 := by unfold inr at hc; simpa using hc
  clear hf hd hq hz hc
  obtain ⟨Wb, hWb⟩ : ∃ W, W = (((w.alloc (.cells #[v0, .int .i64 c, .slice ab qs.length cb] 28)).alloc (.cells #[.slice aa ps.length ca] 25)).alloc (.cells #[.int .i64 r, .string (mk p), .string (mk n), .bool i, .int .i64 st, bv] 36)).alloc (.cells #[.slice none 0 0, .int .i64 0, .slice none 0 0] 28) := ⟨_, rfl⟩
  have HBw := Lib.hid (show Below w.heap.size w Wb by rw [hWb]; (repeat (with_reducible first | exact Below.refl _ _ | assumption | refine ba ?_ _ | refine bd ?_ | refine bdN ?_ _ | refine bs ?_ (by first | exact Nat.le_refl _ | (dsimp only; omega) | (simp; done)) _ | refine bt ?_ (by assumption))))
  have HWs := Lib.hid (show Wb.heap.size = w.heap.size + 4 by rw [hWb]; simp)
  have HX0 := Lib.hid (show HB Wb w.heap.size 28 #[v0, .int .i64 c, .slice ab qs.length cb] by rw [hWb]; exact (((HB.new w _ _).alloc _).alloc _).alloc _)
  have HX1 := Lib.hid (show HB Wb (w.heap.size + 1) 25 #[.slice aa ps.length ca] by rw [hWb]; have h := (((HB.new (w.alloc (.cells #[v0, .int .i64 c, .slice ab qs.length cb] 28)) #[.slice aa ps.length ca] 25).alloc (.cells #[.int .i64 r, .string (mk p), .string (mk n), .bool i, .int .i64 st, bv] 36)).alloc (.cells #[.slice none 0 0, .int .i64 0, .slice none 0 0] 28)); rw [World.size_alloc] at h; exact h)
  have HX2 := Lib.hid (show HB Wb (w.heap.size + 1 + 1) 36 #[.int .i64 r, .string (mk p), .string (mk n), .bool i, .int .i64 st, bv] by rw [hWb]; have h := ((HB.new ((w.alloc (.cells #[v0, .int .i64 c, .slice ab qs.length cb] 28)).alloc (.cells #[.slice aa ps.length ca] 25)) #[.int .i64 r, .string (mk p), .string (mk n), .bool i, .int .i64 st, bv] 36).alloc (.cells #[.slice none 0 0, .int .i64 0, .slice none 0 0] 28)); rw [World.size_alloc, World.size_alloc] at h; exact h)
  have HX3 := Lib.hid (show HB Wb (w.heap.size + 1 + 1 + 1) 28 #[.slice none 0 0, .int .i64 0, .slice none 0 0] by rw [hWb]; have h := (HB.new (((w.alloc (.cells #[v0, .int .i64 c, .slice ab qs.length cb] 28)).alloc (.cells #[.slice aa ps.length ca] 25)).alloc (.cells #[.int .i64 r, .string (mk p), .string (mk n), .bool i, .int .i64 st, bv] 36)) #[.slice none 0 0, .int .i64 0, .slice none 0 0] 28); rw [World.size_alloc, World.size_alloc, World.size_alloc] at h; exact h)
  have HWe := Lib.hid hWb
  have Hk := Lib.hid (fun (w' : World) (hC : Below Wb.heap.size Wb w') => (⟨(HX0.out.step hC).cell 1, (HX0.out.step hC).cell 2, (HX1.out.step hC).cell 0⟩ : w'.cell? ⟨w.heap.size, 1, none⟩ = some (.int .i64 c) ∧ w'.cell? ⟨w.heap.size, 2, none⟩ = some (.slice ab qs.length cb) ∧ w'.cell? ⟨w.heap.size + 1, 0, none⟩ = some (.slice aa ps.length ca)))
  clear hWb
  cases hin : inr k 0 (200 - c)
  · have Hin := Lib.hid hin
    have Hno := Lib.hid (changed_no (d := ⟨fs0, c, qs.map (·.1)⟩) (t := ps.map (·.1)) (r := r) (p := p) (k := k) hin)
    clear hin
    go_enter Try.func44, Try.ntmps44
    go_wp2_with ((go_at_call 57; refine (impl_inRange _ _ _).mono ?_; rintro _ _ ⟨rfl, rfl⟩); rw [Hin.out])
    refine bodyPost_ret (v := .tuple #[.agg #[.slice none 0 0, .int .i64 0, .slice none 0 0], .bool false]) (by simp [results, Try.results44, go_sem, *]) rfl (chgD_no Hno.out (by have h := HBw.out; rw [HWe.out] at h; (repeat (with_reducible first | exact Below.refl _ _ | assumption | refine ba ?_ _ | refine bd ?_ | refine bdN ?_ _ | refine bs ?_ (by first | exact Nat.le_refl _ | (dsimp only; omega) | (simp; done)) _ | refine bt ?_ (by assumption)))))
  · have Hin := Lib.hid hin
    have Hyes := Lib.hid (changed_is (d := ⟨fs0, c, qs.map (·.1)⟩) (t := ps.map (·.1)) (r := r) (p := p) (k := k) hin)
    have hk : 0 ≤ k ∧ k ≤ 200 - c := by unfold inr at hin; simpa using hin
    clear hin
    go_enter Try.func44, Try.ntmps44
    go_wp2_with ((go_at_call 57; refine (impl_inRange _ _ _).mono ?_; rintro _ _ ⟨rfl, rfl⟩); rw [Hin.out])
    rw [← HWe.out]
    go_upto_region 3 with fail
    obtain ⟨a0, a1, a2⟩ := Hk.out Wb (Below.refl _ _)
    go_cut [10] (fun s10 wx => ∃ (X : Nat) (q6 : List (Dr × Value)) (a6 : Option Addr) (c6 : Nat), s10 = .pointer (some ⟨X, 0, none⟩) ∧ HB wx X 28 #[.slice aa ps.length ca, .int .i64 (IntKind.i64.wrap (c + k)), .slice a6 q6.length c6] ∧ OwnDirs wx Wb.heap.size (.slice a6 q6.length c6) q6 ∧ q6.map (·.1) = qs.map (·.1) ∧ Below Wb.heap.size Wb wx ∧ Wb.heap.size ≤ X)
    case first =>
      go_region_held3 (fun w' => w'.cell? ⟨w.heap.size, 1, none⟩ = some (.int .i64 c) ∧ w'.cell? ⟨w.heap.size, 2, none⟩ = some (.slice ab qs.length cb) ∧ w'.cell? ⟨w.heap.size + 1, 0, none⟩ = some (.slice aa ps.length ca))
        (first | (refine Hk.out _ ?_; have := Hb6.out; (repeat (with_reducible first | exact Below.refl _ _ | assumption | refine ba ?_ _ | refine bd ?_ | refine bdN ?_ _ | refine bs ?_ (by first | exact Nat.le_refl _ | (dsimp only; omega) | (simp; done)) _ | refine bt ?_ (by assumption))); done) | (refine Hk.out _ ?_; (repeat (with_reducible first | exact Below.refl _ _ | assumption | refine ba ?_ _ | refine bd ?_ | refine bdN ?_ _ | refine bs ?_ (by first | exact Nat.le_refl _ | (dsimp only; omega) | (simp; done)) _ | refine bt ?_ (by assumption))); done))
        (first | (go_at_call 82; show Calls _ _ _ (World.drew (World.alloc _ _)) _; refine (impl_copyDirs _ qs B' _ (Hd.out.below (by have := HBw.out; (repeat (with_reducible first | exact Below.refl _ _ | assumption | refine ba ?_ _ | refine bd ?_ | refine bdN ?_ _ | refine bs ?_ (by first | exact Nat.le_refl _ | (dsimp only; omega) | (simp; done)) _ | refine bt ?_ (by assumption))))) (by omega) Hbl.out).mono ?_; rintro _ w6 ⟨v6, q6, rfl, hq6, hown6, hb6⟩; have Hq6 := Lib.hid hq6; have Hown6 := Lib.hid (hown6.mono (show Wb.heap.size + 1 ≤ _ by simp)); have Hb6 := Lib.hid (show Below Wb.heap.size Wb w6 by (repeat (with_reducible first | exact Below.refl _ _ | assumption | refine ba ?_ _ | refine bd ?_ | refine bdN ?_ _ | refine bs ?_ (by first | exact Nat.le_refl _ | (dsimp only; omega) | (simp; done)) _ | refine bt ?_ (by assumption)))); obtain ⟨a6, c6, rfl⟩ := hown6.len; have HG := Lib.hid ((HB.new Wb #[.slice none 0 0, .int .i64 0, .slice none 0 0] 28).drew.step hb6); have g0 := HG.out.cell 0; have g1 := HG.out.cell 1; have g2 := HG.out.cell 2; have z0 := HG.out.frozen 0; have z1 := HG.out.frozen 1; have z2 := HG.out.frozen 2; clear hown6 hq6 hb6) | (go_at_call 82; refine (impl_copyDirs _ qs B' _ (Hd.out.below (by have := HBw.out; (repeat (with_reducible first | exact Below.refl _ _ | assumption | refine ba ?_ _ | refine bd ?_ | refine bdN ?_ _ | refine bs ?_ (by first | exact Nat.le_refl _ | (dsimp only; omega) | (simp; done)) _ | refine bt ?_ (by assumption))))) (by omega) Hbl.out).mono ?_; rintro _ w6 ⟨v6, q6, rfl, hq6, hown6, hb6⟩; have Hq6 := Lib.hid hq6; have Hown6 := Lib.hid (hown6.mono (show Below Wb.heap.size Wb _ by (repeat (with_reducible first | exact Below.refl _ _ | assumption | refine ba ?_ _ | refine bd ?_ | refine bdN ?_ _ | refine bs ?_ (by first | exact Nat.le_refl _ | (dsimp only; omega) | (simp; done)) _ | refine bt ?_ (by assumption)))).size); have Hb6 := Lib.hid (show Below Wb.heap.size Wb w6 by (repeat (with_reducible first | exact Below.refl _ _ | assumption | refine ba ?_ _ | refine bd ?_ | refine bdN ?_ _ | refine bs ?_ (by first | exact Nat.le_refl _ | (dsimp only; omega) | (simp; done)) _ | refine bt ?_ (by assumption)))); obtain ⟨a6, c6, rfl⟩ := hown6.len; clear hown6 hq6 hb6))
      · go_wp2_with fail
        go_meet
        exact ⟨_, q6, a6, c6, rfl, HB.new _ _ _, Hown6.out.below (ba (Below.refl _ _) _), Hq6.out, ba Hb6.out _, Hb6.out.size⟩
      · go_wp2_with fail
        go_meet
        refine ⟨_, q6, a6, c6, rfl, ?_, (((Hown6.out.set_low (by dsimp only; omega) _).set_low (by dsimp only; omega) _).set_low (by dsimp only; omega) _).mono (by omega), Hq6.out, bs (bs (bs Hb6.out (Nat.le_refl _) _) (Nat.le_refl _) _) (Nat.le_refl _) _, Nat.le_refl _⟩
        have h := ((HG.out.put 0 (.slice aa ps.length ca)).put 1 (.int .i64 (IntKind.i64.wrap (c + k)))).put 2 (.slice a6 q6.length c6)
        simpa using h
    case rest =>
      obtain ⟨X, q6, a6, c6, rfl, hA, hD, hm, hBel, hX⟩ := hcut
      have hwrap : IntKind.i64.wrap (c + k) = c + k := IntWalk.i64_in _ (by omega)
      rw [hwrap] at hA
      obtain ⟨m, hmm⟩ : ∃ m, m = c + k := ⟨_, rfl⟩
      rw [← hmm] at hA
      have Hyes' := Lib.hid (show changed ⟨fs0, c, qs.map (·.1)⟩ (ps.map (·.1)) r p k = if okDisk ⟨ps.map (·.1), m, stampAll r m ([] :: namesAbove p) (qs.map (·.1))⟩ then (⟨ps.map (·.1), m, stampAll r m ([] :: namesAbove p) (qs.map (·.1))⟩, true) else (⟨[], 0, []⟩, false) by rw [hmm]; exact Hyes.out)
      have HA := Lib.hid hA
      have HD := Lib.hid hD
      have Hm := Lib.hid hm
      have HB1 := Lib.hid hBel
      have hsz := hBel.size
      have hWs := HWs.out
      have hXlt : X < wc.heap.size := hA.lt
      have hq6l : q6.length ≤ 20 := by have h := congrArg List.length hm; simp at h; omega
      clear hA hD hm hBel hwrap hmm
      have f1 : wc.cell? ⟨w.heap.size + 1 + 1, 1, none⟩ = some (.string (mk p)) := (HX2.out.step HB1.out).cell 1
      have hlt0 : w.heap.size + 1 + 1 < wc.heap.size := by omega
      have f2 : (wc.alloc (.cells #[.string ⟨#[]⟩] 9)).cell? ⟨w.heap.size + 1 + 1, 1, none⟩ = some (.string (mk p)) := ((show Below wc.heap.size wc _ by (repeat (with_reducible first | exact Below.refl _ _ | assumption | refine ba ?_ _ | refine bd ?_ | refine bdN ?_ _ | refine bs ?_ (by first | exact Nat.le_refl _ | (dsimp only; omega) | (simp; done)) _ | refine bt ?_ (by assumption)))).cell (p := ⟨w.heap.size + 1 + 1, 1, none⟩) hlt0).trans f1
      have hna3 : (namesAbove p).length ≤ 3 := namesAbove_le3 p
      obtain ⟨L, hL⟩ : ∃ L, L = [] :: namesAbove p := ⟨_, rfl⟩
      have HLe := Lib.hid (show 1 + (namesAbove p).length = L.length by rw [hL, List.length_cons]; omega)
      have HLm := Lib.hid (show [Value.string (mk [])] ++ (namesAbove p).map sv = L.map sv by rw [hL]; rfl)
      have hL4 : L.length ≤ 4 := by rw [hL, List.length_cons]; omega
      have HLs := Lib.hid (show ∀ q ∈ L, q.length ≤ 11 by rw [hL]; exact stamped_short p)
      rw [← hL] at Hyes'
      clear hL Hyes
      go_wp2_with (first
        | (go_at_call 83; refine (impl_NamesAbove p _ (by omega)).mono ?_; rintro _ w8 ⟨v8, rfl, hown8, hb8⟩; obtain ⟨a8, c8, rfl⟩ := owns_shape hown8; have Hown8 := Lib.hid hown8; have Hb8 := Lib.hid (show Below wc.heap.size wc w8 by (repeat (with_reducible first | exact Below.refl _ _ | assumption | refine ba ?_ _ | refine bd ?_ | refine bdN ?_ _ | refine bs ?_ (by first | exact Nat.le_refl _ | (dsimp only; omega) | (simp; done)) _ | refine bt ?_ (by assumption)))); have HL8 := Lib.hid (owns_below (World.ownsRow_lit (size := 1) (base := wc.heap.size) (e := 9) wc #[.string (mk [])] 1 (Nat.le_refl _) (by unfold maxLen; omega) rfl) hb8))
        | (at_builtin; refine wpList_append_both rfl _ _ 70 rfl wc.heap.size 9 i1 _ 1 16 Try.underlying70 Hi1.out Hy0.out Hy1.out Hy2.out rfl (by decide) _ 1 _ rfl HL8.out _ _ _ _ rfl Hown8.out (fun u hu => by obtain ⟨s, _, rfl⟩ := List.mem_map.1 hu; rfl) (by unfold maxLen; omega) (by omega) (by have := Hb8.out.size; omega) ?_; intro v9 w9 hown9 hgrow9; rw [HLe.out, HLm.out] at hown9; obtain ⟨a9, c9, rfl⟩ := owns_shape hown9; have Hown9 := Lib.hid hown9; have Hb9 := Lib.hid (show Below wc.heap.size wc w9 from Hb8.out.grown hgrow9 Hb8.out.size (fun g hg => (HL8.out.lt g hg).1)); clear hown9 hgrow9))
      clear f1 f2
      have hz9 := Hb9.out.size
      go_loopw [35] (fun iv wr => ∃ (j : Nat) (u' : Value) (rs : List (Dr × Value)), j ≤ L.length ∧ iv = .int .i64 j ∧ rs.map (·.1) = stampAll r m (L.take j) (qs.map (·.1)) ∧ OwnDirs wr Wb.heap.size u' rs ∧ HB wr X 28 #[.slice aa ps.length ca, .int .i64 m, u'] ∧ wr.ownsRow wc.heap.size 9 1 (.slice a9 L.length c9) L.length (L.map sv) ∧ Below Wb.heap.size Wb wr ∧ wc.heap.size ≤ wr.heap.size) (fun iv _ => L.length - (intOf iv).toNat)
      case atStart => exact ⟨0, _, q6, by omega, rfl, Hm.out, HD.out.below Hb9.out, HA.out.step Hb9.out, Hown9.out, HB1.out.trans (Hb9.out.mono hsz), hz9⟩
      case round =>
        obtain ⟨j, u', rs, hj, rfl, hrs, hown, hbx, hnm, hbel, hszr⟩ := hrel
        obtain ⟨ua, uc, rfl⟩ := hown.len
        have hrl : rs.length ≤ 24 := by
          have h1 := congrArg List.length hrs
          have h2 := stampAll_len r m (L.take j) (qs.map (·.1))
          simp at h1 h2
          omega
        have Hrs := Lib.hid hrs
        have Hown := Lib.hid hown
        have Hbx := Lib.hid hbx
        have Hnm := Lib.hid hnm
        have Hbel := Lib.hid hbel
        have hXr : X < wr.heap.size := hbx.lt
        clear hrs hown hbx hbel
        by_cases hlt : j < L.length
        · obtain ⟨gl, cl, el, hgl1, hgl2⟩ := hnm.form (by omega)
          simp only [Value.slice.injEq] at el
          obtain ⟨rfl, _, rfl⟩ := el
          have hcj : wr.cell? ⟨gl, j, none⟩ = some (.string (mk L[j])) := by
            rw [hnm.cellAt j (by omega), List.getElem?_map, List.getElem?_eq_getElem hlt]; rfl
          have Hsn := Lib.hid (stampAll_snoc r m L (qs.map (·.1)) j hlt)
          have hsl : L[j].length ≤ 11 := HLs.out _ (List.getElem_mem hlt)
          have x1 : wr.cell? ⟨X, 1, none⟩ = some (.int .i64 m) := Hbx.out.cell 1
          have x2 : wr.cell? ⟨X, 2, none⟩ = some (.slice ua rs.length uc) := Hbx.out.cell 2
          have y0 : wr.cell? ⟨w.heap.size + 1 + 1, 0, none⟩ = some (.int .i64 r) := (HX2.out.step Hbel.out).cell 0
          have hk1 : (j : Int) < (L.length : Int) := by omega
          have hk0 : (0 : Int) ≤ (j : Int) := by omega
          obtain ⟨nm, hnme⟩ : ∃ nm, nm = L[j] := ⟨_, rfl⟩
          rw [← hnme] at hcj Hsn hsl
          clear hnme hnm
          go_wp2_with (go_at_call 84; refine (impl_putDir _ rs r nm m [] (.slice none 0 0) Wb.heap.size _ Hown.out Hbel.out.size (by omega) (World.ownsRow_nil _ _ _ _) (fun _ _ _ _ h => by cases h)).mono ?_; rintro _ w7 ⟨v7, rs7, rfl, hrs7, hown7, hg7, _⟩; obtain ⟨a7, c7, rfl⟩ := hown7.len; have Hrs7 := Lib.hid hrs7; have Hown7 := Lib.hid hown7; have Hg7 := Lib.hid hg7; have HbX7 := Lib.hid (Hbx.out.grown hg7 (Hbx.out.apart Hown.out.1 (by decide))); have hx7 := HbX7.out.cell 2; have hf7 := HbX7.out.frozen 2; have hl7 := HbX7.out.lt; clear hrs7 hown7 hg7)
          have HbW := Lib.hid (show Below Wb.heap.size Wb w7 from Hbel.out.grown Hg7.out Hbel.out.size (fun g hg => (Hown.out.1.lt g hg).1))
          go_roundw
          case rel =>
            refine ⟨j + 1, _, rs7, by omega, by go_num, ?_, HbX7.out.dirs (by decide) (by decide) Hown7.out _ _, ?_, owns_hbput HbX7.out (dk_kept2 Hnm.out Hown.out.1 Hg7.out) (by decide) _ _, bs HbW.out hX _, ?_⟩
            · rw [Hrs7.out, Hrs.out, Hsn.out]
            · have h := HbX7.out.put 2 (.slice a7 rs7.length c7)
              simpa using h
            · have := Hg7.out.size; simp; omega
          case measure => simp [intOf]; omega
        · obtain rfl : j = L.length := by omega
          rw [List.take_length] at Hrs
          have x0 : wr.cell? ⟨X, 0, none⟩ = some (.slice aa ps.length ca) := Hbx.out.cell 0
          have x1 : wr.cell? ⟨X, 1, none⟩ = some (.int .i64 m) := Hbx.out.cell 1
          have x2 : wr.cell? ⟨X, 2, none⟩ = some (.slice ua rs.length uc) := Hbx.out.cell 2
          have HF := Lib.hid (Hf.out.below (show Below w.heap.size w wr from HBw.out.trans (Hbel.out.mono HBw.out.size)))
          have HDk := Lib.hid (show DskIn wr (fun _ => True) (.slice aa ps.length ca) (ps.map (·.1)) (.slice ua rs.length uc) (stampAll r m L (qs.map (·.1))) from ⟨HF.out.fils (D := fun _ => True) (fun _ _ => trivial), by have h := Hown.out.dirs (D := fun _ => True) (fun _ _ => trivial); rw [Hrs.out] at h; exact h⟩)
          have HSk := Lib.hid (show ShortK 2000000 (ps.map (·.1)) (stampAll r m L (qs.map (·.1))) from ⟨Hz.out, fun d hd => by
            have h := stampAll_allM (P := fun d => d.pack.length ≤ 11 ∧ d.names = []) L (qs.map (·.1)) (fun q hq => ⟨HLs.out q hq, rfl⟩) (fun x hx => ⟨(Hdr.out x hx).2, (Hdr.out x hx).1⟩) d hd
            exact ⟨by omega, by rw [h.2]; intro q hq; simp at hq⟩⟩)
          clear hnm
          cases hok : okDisk ⟨ps.map (·.1), m, stampAll r m L (qs.map (·.1))⟩
          · have Hno := Lib.hid (show changed ⟨fs0, c, qs.map (·.1)⟩ (ps.map (·.1)) r p k = (⟨[], 0, []⟩, false) by rw [Hyes'.out, hok]; rfl)
            have Hok := Lib.hid hok
            clear hok
            go_wp2_with (go_at_call 17; refine (impl_ValidDisk _ _ m _ _ (fun _ => True) _ HDk.out HSk.out).mono ?_; rintro _ w9' ⟨rfl, hb9'⟩; rw [Hok.out]; have Hb9' := Lib.hid hb9'; have HR := Lib.hid (HX3.out.step (Hbel.out.trans (hb9'.mono Hbel.out.size))); have r0 := HR.out.cell 0; have r1 := HR.out.cell 1; have r2 := HR.out.cell 2; have rf := HR.out.frozen; have rf0 := rf 0; have rf1 := rf 1; have rf2 := rf 2; have rlt := HR.out.lt; clear hb9' rf)
            refine bodyPost_ret (v := .tuple #[.agg #[.slice none 0 0, .int .i64 0, .slice none 0 0], .bool false]) (by simp [results, Try.results44, go_sem, r0, r1, r2]) rfl (chgD_no Hno.out ?_)
            have hbw : Below w.heap.size w w9' := (HBw.out.trans (Hbel.out.mono HBw.out.size)).trans (Hb9'.out.mono (by have := Hbel.out.size; omega))
            (repeat (with_reducible first | exact Below.refl _ _ | assumption | refine ba ?_ _ | refine bd ?_ | refine bdN ?_ _ | refine bs ?_ (by first | exact Nat.le_refl _ | (dsimp only; omega) | (simp; done)) _ | refine bt ?_ (by assumption)))
          · have Hy := Lib.hid (show changed ⟨fs0, c, qs.map (·.1)⟩ (ps.map (·.1)) r p k = (⟨ps.map (·.1), m, stampAll r m L (qs.map (·.1))⟩, true) by rw [Hyes'.out, hok]; rfl)
            have Hok := Lib.hid hok
            clear hok
            go_wp2_with (go_at_call 17; refine (impl_ValidDisk _ _ m _ _ (fun _ => True) _ HDk.out HSk.out).mono ?_; rintro _ w9' ⟨rfl, hb9'⟩; rw [Hok.out]; have Hb9' := Lib.hid hb9'; have HR := Lib.hid (HX3.out.step (Hbel.out.trans (hb9'.mono Hbel.out.size))); have r0 := HR.out.cell 0; have r1 := HR.out.cell 1; have r2 := HR.out.cell 2; have rf := HR.out.frozen; have rf0 := rf 0; have rf1 := rf 1; have rf2 := rf 2; have rlt := HR.out.lt; have HBx := Lib.hid (Hbx.out.step hb9'); have z0 := HBx.out.cell 0; have z1 := HBx.out.cell 1; have z2 := HBx.out.cell 2; clear hb9' rf)
            refine bodyPost_ret (v := .tuple #[.agg #[.slice aa ps.length ca, .int .i64 m, .slice ua rs.length uc], .bool true]) (by simp [results, Try.results44, go_sem, r0, r1, r2]) rfl ?_
            rw [Hy.out]
            refine ⟨_, ps, _, rs, rfl, rfl, Hrs.out, ?_, ?_, ?_⟩
            · have h := HF.out.below Hb9'.out
              exact fils_hb (fils_hb (fils_hb h HR.out (by decide) (by decide) _ _) (HR.out.put _ _) (by decide) (by decide) _ _) ((HR.out.put _ _).put _ _) (by decide) (by decide) _ _
            · exact OwnDirs.mono (((((Hown.out.below Hb9'.out).set_low (by dsimp only; omega) _).set_low (by dsimp only; omega) _).set_low (by dsimp only; omega) _)) (by omega)
            · have hbw : Below w.heap.size w w9' := (HBw.out.trans (Hbel.out.mono HBw.out.size)).trans (Hb9'.out.mono (by have := Hbel.out.size; omega))
              (repeat (with_reducible first | exact Below.refl _ _ | assumption | refine ba ?_ _ | refine bd ?_ | refine bdN ?_ _ | refine bs ?_ (by first | exact Nat.le_refl _ | (dsimp only; omega) | (simp; done)) _ | refine bt ?_ (by assumption)))
end Go.Proofs.Ytgecemngfpgcoaa
