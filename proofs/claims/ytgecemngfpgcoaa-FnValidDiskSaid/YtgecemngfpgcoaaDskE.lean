/- Contracts of the model's change of a disk. -/
import Derived.Test.YtgecemngfpgcoaaDskD
import Derived.Test.YtgecemngfpgcoaaDisks4
import Derived.Deep.DeepCutAuto
set_option linter.unusedVariables false
set_option linter.unusedSimpArgs false
namespace Go.Proofs.Ytgecemngfpgcoaa
open Go.RowKit Go.Proofs.Ytgecemngfpgcoaa.Nm

theorem own4_stamp {w : World} {B e g cap n : Nat} {L : List (Dr × Value)} (h : w.ownsRow B e 4 (.slice (some ⟨g, 0, none⟩) n cap) n (L.flatMap drCells)) (i : Nat) (hi : i < L.length) (c : Int) :
    (w.setCell ⟨g, i * 4 + 2, none⟩ (.int .i64 c)).ownsRow B e 4 (.slice (some ⟨g, 0, none⟩) n cap) n ((L.set i ((⟨L[i].1.root, L[i].1.pack, c, L[i].1.names⟩ : Dr), L[i].2)).flatMap drCells) := by
  have h5 := (h.stored (i * 4 + 2) (.int .i64 c)).1
  have hA := fm_take_len drCells 4 L i hi drCells_len
  rw [fm_split drCells L i hi, show drCells L[i] = [.int .i64 L[i].1.root, .string (mk L[i].1.pack), .int .i64 L[i].1.stamp, L[i].2] from rfl, set_mid _ _ _ (i * 4) 2 _ hA (by simp)] at h5
  rw [fm_put drCells L i _ hi]
  exact h5
theorem dirs_stamp {w : World} {B g cap : Nat} {L : List (Dr × Value)} (h : OwnDirs w B (.slice (some ⟨g, 0, none⟩) L.length cap) L) (i : Nat) (hi : i < L.length) (c : Int) :
    OwnDirs (w.setCell ⟨g, i * 4 + 2, none⟩ (.int .i64 c)) B (.slice (some ⟨g, 0, none⟩) L.length cap) (L.set i ((⟨L[i].1.root, L[i].1.pack, c, L[i].1.names⟩ : Dr), L[i].2)) := by
  refine ⟨by rw [List.length_set]; exact own4_stamp h.1 i hi c, ?_⟩
  have h2 := h.2.heap (w' := w.setCell ⟨g, i * 4 + 2, none⟩ (.int .i64 c)) (fun b _ _ ⟨q, hq, hb⟩ => Below.heap_setCell w ⟨g, i * 4 + 2, none⟩ _ b (fun e => own_types (T := 72) (T' := 9) (by decide) h.1 (h.2.1 q hq) rfl (by rw [hb, e])))
  refine ⟨fun p hp => ?_, ?_⟩
  · rcases List.mem_or_eq_of_mem_set hp with hp | rfl
    · exact h2.1 p hp
    · exact h2.1 L[i] (List.getElem_mem hi)
  · rw [List.pairwise_iff_getElem]
    intro a b ha hb hab
    rw [List.length_set] at ha hb
    have h3 := List.pairwise_iff_getElem.1 h2.2 a b ha hb hab
    rw [List.getElem_set, List.getElem_set]
    split <;> split
    · omega
    · rename_i e1 _; subst e1; exact h3
    · rename_i _ e1; subst e1; exact h3
    · exact h3
/-- A stamp in a directory that is known, where it has no names. -/
theorem putDr_stamp {ds : List Dr} {r c : Int} {p : Bs} {k : Nat} (hk : k < ds.length) (h : dirAt ds (r, p) = (k : Int)) (hn : ds[k].names = []) : putDr ds ⟨r, p, c, []⟩ = ds.set k ⟨ds[k].root, ds[k].pack, c, ds[k].names⟩ := by
  rw [putDr_at (k := k) h, hn]
  rcases keyAt_is (key := dplace) ds (r, p) with ⟨h1, _⟩ | ⟨j, hj, h1, h2, _⟩
  · rw [show dirAt ds (r, p) = -1 from h1] at h; omega
  · rw [show dirAt ds (r, p) = (j : Int) from h1] at h
    obtain rfl : j = k := by omega
    unfold dplace at h2
    cases h2; rfl
theorem owns_drwE {w : World} {B e s n : Nat} {v : Value} {xs : List Value} (h : w.ownsRow B e s v n xs) : w.drew.ownsRow B e s v n xs := owns_below h ⟨rfl, rfl, rfl, Nat.le_refl _, fun _ _ => rfl⟩
set_option maxRecDepth 100000 in
set_option maxHeartbeats 4000000 in
theorem spec_stamped (v u : Value) (c r : Int) (p : Bs) (qs : List (Dr × Value)) (B : Nat) (w : World) (hv : ∃ a n k, v = .slice a n k) (hd : OwnDirs w B u qs) (hB : B ≤ w.heap.size) (hq : ∀ q ∈ qs, q.1.names = []) (hl : qs.length ≤ 20) (hp : vpk p = true) :
    Calls Try.prog 89 #[.agg #[v, .int .i64 c, u], .int .i64 r, .string (mk p)] w fun e w' => ∃ u' rs, e = .returned (.agg #[v, .int .i64 c, u']) ∧ rs.map (·.1) = stampAll r c ([] :: namesAbove p) (qs.map (·.1)) ∧ OwnDirs w' B u' rs ∧ Below B w w' ∧ KeepT 72 w w' := by
  obtain ⟨i1, hi1, hy0, hy1, hy2⟩ := info_parts infoSD
  have Hi1 := Lib.hid hi1
  have Hy0 := Lib.hid hy0
  have Hy1 := Lib.hid hy1
  have Hy2 := Lib.hid hy2
  obtain ⟨i0, hi, hz0, hz1, hz2⟩ := info_parts infoDir
  have Hi := Lib.hid hi
  have Hz0 := Lib.hid hz0
  have Hz1 := Lib.hid hz1
  have Hz2 := Lib.hid hz2
  clear hi1 hy0 hy1 hy2 hi hz0 hz1 hz2
  obtain ⟨va, vn', vk, rfl⟩ := hv
  obtain ⟨ab, cb, rfl⟩ := hd.len
  have Hd := Lib.hid hd
  have Hq := Lib.hid hq
  have hpl := vpk_len hp
  have Hp := Lib.hid hp
  clear hd hq hp
  obtain ⟨Wb, hWb⟩ : ∃ W, W = ((w.alloc (.cells #[.slice va vn' vk, .int .i64 c, .slice ab qs.length cb] 28)).alloc (.cells #[.slice none 0 0, .int .i64 0, .slice none 0 0] 28)).alloc (.cells #[.string (⟨#[]⟩ : ByteArray)] 9) := ⟨_, rfl⟩
  have HBw := Lib.hid (show Below w.heap.size w Wb by rw [hWb]; (repeat (with_reducible first | exact Below.refl _ _ | assumption | refine ba ?_ _ | refine bd ?_ | refine bdN ?_ _ | refine bs ?_ (by first | exact Nat.le_refl _ | (dsimp only; omega) | (simp; done)) _ | refine bt ?_ (by assumption))))
  have HWs := Lib.hid (show Wb.heap.size = w.heap.size + 3 by rw [hWb]; simp)
  have HX0 := Lib.hid (show HB Wb w.heap.size 28 #[.slice va vn' vk, .int .i64 c, .slice ab qs.length cb] by rw [hWb]; exact ((HB.new w _ _).alloc _).alloc _)
  have HX1 := Lib.hid (show HB Wb (w.heap.size + 1) 28 #[.slice none 0 0, .int .i64 0, .slice none 0 0] by rw [hWb]; have h := ((HB.new (w.alloc (.cells #[.slice va vn' vk, .int .i64 c, .slice ab qs.length cb] 28)) #[.slice none 0 0, .int .i64 0, .slice none 0 0] 28).alloc (.cells #[.string (⟨#[]⟩ : ByteArray)] 9)); rw [World.size_alloc] at h; exact h)
  have HL0 := Lib.hid (show Wb.ownsRow (w.heap.size + 2) 9 1 (.slice (some ⟨w.heap.size + 1 + 1, 0, none⟩) 1 1) 1 [.string (mk [])] by
    have h := World.ownsRow_lit (size := 1) (base := w.heap.size + 2) (e := 9) ((w.alloc (.cells #[.slice va vn' vk, .int .i64 c, .slice ab qs.length cb] 28)).alloc (.cells #[.slice none 0 0, .int .i64 0, .slice none 0 0] 28)) #[.string (mk [])] 1 (by simp) (by unfold maxLen; omega) rfl
    rw [World.size_alloc, World.size_alloc] at h
    rw [hWb]; exact h)
  have HWe := Lib.hid hWb
  clear hWb
  obtain ⟨L, hL⟩ : ∃ L, L = [] :: namesAbove p := ⟨_, rfl⟩
  have hna3 : (namesAbove p).length ≤ 3 := namesAbove_le3 p
  have hL4 : L.length ≤ 4 := by rw [hL, List.length_cons]; omega
  have HLs := Lib.hid (show ∀ q ∈ L, q.length ≤ 11 by rw [hL]; exact stamped_short p)
  rw [← hL]
  have HL := Lib.hid hL
  clear hL
  go_enter Try.func89, Try.ntmps89
  go_upto_if 12 with fail
  rw [← HWe.out]
  go_cut [7] (fun s7 wx => ∃ (a9 : Option Addr) (c9 : Nat), s7 = .slice a9 L.length c9 ∧ wx.ownsRow (w.heap.size + 2) 9 1 (.slice a9 L.length c9) L.length (L.map sv) ∧ Below (w.heap.size + 2) Wb wx)
  case first =>
    by_cases hp0 : p = []
    · have e : L = [[]] := by rw [HL.out, hp0]; rfl
      subst hp0
      go_wp2_with fail
      go_meet
      rw [e]
      exact ⟨_, _, rfl, HL0.out, Below.refl _ _⟩
    · have hvn : vn p = true := (vpk_iff.1 Hp.out).resolve_left hp0
      have hab : namesAbove p = above p := by unfold namesAbove; rw [if_pos hvn]
      have hpe : List.isEmpty p = false := by simpa using hp0
      have hpe2 : (!List.isEmpty p) = true := by rw [hpe]; rfl
      clear hpe
      have hal : (above p).length ≤ 3 := by rw [← hab]; exact hna3
      have HLe := Lib.hid (show 1 + (above p).length = L.length by rw [HL.out, List.length_cons, hab]; omega)
      have HLm := Lib.hid (show [Value.string (mk [])] ++ (above p).map sv = L.map sv by rw [HL.out, hab]; rfl)
      have hz := HWs.out
      clear hab hvn
      go_wp2_with (first
        | (go_at_call 124; refine (spec_above p _ (by omega)).mono ?_; rintro _ w8 ⟨v8, rfl, hown8, hb8⟩; obtain ⟨a8, c8, rfl⟩ := owns_shape hown8; have Hown8 := Lib.hid hown8; have Hb8 := Lib.hid (show Below Wb.heap.size Wb w8 by (repeat (with_reducible first | exact Below.refl _ _ | assumption | refine ba ?_ _ | refine bd ?_ | refine bdN ?_ _ | refine bs ?_ (by first | exact Nat.le_refl _ | (dsimp only; omega) | (simp; done)) _ | refine bt ?_ (by assumption)))); have HL8 := Lib.hid (owns_below HL0.out hb8); clear hown8 hb8)
        | (at_builtin; refine wpList_append_both rfl _ _ 70 rfl (w.heap.size + 2) 9 i1 _ 1 16 Try.underlying70 Hi1.out Hy0.out Hy1.out Hy2.out rfl (by decide) _ 1 _ rfl HL8.out _ _ _ _ rfl Hown8.out (fun u hu => by obtain ⟨s, _, rfl⟩ := List.mem_map.1 hu; rfl) (by unfold maxLen; omega) (by omega) (by have := Hb8.out.size; omega) ?_; intro v9 w9 hown9 hgrow9; rw [HLe.out, HLm.out] at hown9; obtain ⟨a9, c9, rfl⟩ := owns_shape hown9; have Hown9 := Lib.hid hown9; have Hg9 := Lib.hid hgrow9; clear hown9 hgrow9))
      rotate_left
      · rename_i hx
        rw [hpe2] at hx
        exact absurd hx (by simp)
      go_meet
      exact ⟨_, _, rfl, Hown9.out, (Hb8.out.mono (by omega)).grown Hg9.out (by have := Hb8.out.size; omega) (fun g hg => by cases hg; dsimp only; omega)⟩
  case rest =>
    obtain ⟨a9, c9, rfl, hnm0, hbc⟩ := hcut
    have Hnm0 := Lib.hid hnm0
    have Hbc := Lib.hid hbc
    have hz := hbc.size
    have hzz := HWs.out
    clear hnm0 hbc HL0
    go_wp2_with fail
    go_loopw [8] (fun iv wr => ∃ (j : Nat) (u' : Value) (rs : List (Dr × Value)), j ≤ L.length ∧ iv = .int .i64 j ∧ rs.map (·.1) = stampAll r c (L.take j) (qs.map (·.1)) ∧ OwnDirs wr B u' rs ∧ HB wr w.heap.size 28 #[.slice va vn' vk, .int .i64 c, u'] ∧ HB wr (w.heap.size + 1) 28 #[.slice none 0 0, .int .i64 0, .slice none 0 0] ∧ wr.ownsRow (w.heap.size + 2) 9 1 (.slice a9 L.length c9) L.length (L.map sv) ∧ Below B w wr ∧ KeepT 72 w wr ∧ wc.heap.size ≤ wr.heap.size) (fun iv _ => L.length - (intOf iv).toNat)
    case atStart =>
      have hbw : Below w.heap.size w wc := HBw.out.trans (Hbc.out.mono (by omega))
      exact ⟨0, _, qs, by omega, rfl, rfl, Hd.out.below hbw, HX0.out.below Hbc.out (by omega), HX1.out.below Hbc.out (by omega), Hnm0.out, hbw.mono hB, KeepT.of_below hbw, Nat.le_refl _⟩
    case round =>
      obtain ⟨j, u', rs, hj, rfl, hrs, hown, hbx, hbx1, hnm, hbel, hkt, hszr⟩ := hrel
      have Hkt := Lib.hid hkt
      clear hkt
      obtain ⟨ua, uc, rfl⟩ := hown.len
      have hrl : rs.length ≤ 24 := by
        have h1 := congrArg List.length hrs
        have h2 := stampAll_len r c (L.take j) (qs.map (·.1))
        simp at h1 h2
        omega
      have Hrn := Lib.hid (show ∀ q ∈ rs, q.1.names = [] from fun q h => by
        have h1 := stampAll_all (P := fun d => d.names = []) (r := r) (c := c) (fun _ => rfl) (L.take j) (qs.map (·.1)) (fun x hx => by obtain ⟨q, hq, rfl⟩ := List.mem_map.1 hx; exact Hq.out q hq)
        rw [← hrs] at h1
        exact h1 q.1 (List.mem_map.2 ⟨q, h, rfl⟩))
      have Hrs := Lib.hid hrs
      have Hown := Lib.hid hown
      have Hbx := Lib.hid hbx
      have Hbx1 := Lib.hid hbx1
      have Hnm := Lib.hid hnm
      have Hbel := Lib.hid hbel
      have hXr : w.heap.size < wr.heap.size := hbx.lt
      have hszw := hbel.size
      clear hrs hown hbx hbx1 hbel
      by_cases hlt : j < L.length
      · obtain ⟨gl, cl, el, hgl1, hgl2⟩ := hnm.form (by omega)
        simp only [Value.slice.injEq] at el
        obtain ⟨rfl, _, rfl⟩ := el
        have hcj : wr.cell? ⟨gl, j, none⟩ = some (.string (mk L[j])) := by
          rw [hnm.cellAt j (by omega), List.getElem?_map, List.getElem?_eq_getElem hlt]; rfl
        have hgs : gl < wr.heap.size := (hnm.lt gl rfl).2
        have Hsn := Lib.hid (stampAll_snoc r c L (qs.map (·.1)) j hlt)
        have hsl : L[j].length ≤ 11 := HLs.out _ (List.getElem_mem hlt)
        have x1 : wr.cell? ⟨w.heap.size, 1, none⟩ = some (.int .i64 c) := Hbx.out.cell 1
        have x2 : wr.cell? ⟨w.heap.size, 2, none⟩ = some (.slice ua rs.length uc) := Hbx.out.cell 2
        have hk1 : (j : Int) < (L.length : Int) := by omega
        have hk0 : (0 : Int) ≤ (j : Int) := by omega
        obtain ⟨nm, hnme⟩ : ∃ nm, nm = L[j] := ⟨_, rfl⟩
        rw [← hnme] at hcj Hsn hsl
        clear hnme hnm
        have Hdi := Lib.hid (Hown.out.dirs (D := fun _ => True) (fun _ _ => trivial))
        have Hk := Lib.hid (fun (w' : World) (hC : Below wr.heap.size wr w') => (⟨(Hbx.out.step hC).cell 2, (hC.cell (p := ⟨gl, j, none⟩) hgs).trans hcj, hC⟩ : w'.cell? ⟨w.heap.size, 2, none⟩ = some (.slice ua rs.length uc) ∧ w'.cell? ⟨gl, j, none⟩ = some (.string (mk nm)) ∧ Below wr.heap.size wr w'))
        rcases keyAt_is (key := dplace) (rs.map (·.1)) (r, nm) with ⟨hno, _⟩ | ⟨k, hk, hyes, _, _⟩
        · have Hno := Lib.hid (show dirAt (rs.map (·.1)) (r, nm) = -1 from hno)
          clear hno
          go_wp2_with fail
          go_region_held3 (fun w' => w'.cell? ⟨w.heap.size, 2, none⟩ = some (.slice ua rs.length uc) ∧ w'.cell? ⟨gl, j, none⟩ = some (.string (mk nm)) ∧ Below wr.heap.size wr w')
            (exact Hk.out _ (by (repeat (with_reducible first | exact Below.refl _ _ | assumption | refine ba ?_ _ | refine bd ?_ | refine bdN ?_ _ | refine bs ?_ (by first | exact Nat.le_refl _ | (dsimp only; omega) | (simp; done)) _ | refine bt ?_ (by assumption)))))
            (first | (go_at_call 116; refine (spec_dirAt ua rs.length uc (rs.map (·.1)) (fun _ => True) r nm _ (Hdi.out.below (by (repeat (with_reducible first | exact Below.refl _ _ | assumption | refine ba ?_ _ | refine bd ?_ | refine bdN ?_ _ | refine bs ?_ (by first | exact Nat.le_refl _ | (dsimp only; omega) | (simp; done)) _ | refine bt ?_ (by assumption)))))).mono ?_; rintro _ w7 ⟨rfl, hb7⟩; rw [Hno.out]))
          have Hb7 := Lib.hid (show Below wr.heap.size wr w7 by (repeat (with_reducible first | exact Below.refl _ _ | assumption | refine ba ?_ _ | refine bd ?_ | refine bdN ?_ _ | refine bs ?_ (by first | exact Nat.le_refl _ | (dsimp only; omega) | (simp; done)) _ | refine bt ?_ (by assumption))))
          have HbX7 := Lib.hid (Hbx.out.step Hb7.out)
          have HbX71 := Lib.hid (Hbx1.out.step Hb7.out)
          have Hown7 := Lib.hid (Hown.out.below Hb7.out)
          have Hnm7 := Lib.hid (owns_below Hnm.out Hb7.out)
          have hB7 : B ≤ w7.heap.size := by have := Hb7.out.size; omega
          clear x1 x2
          have x1 : w7.cell? ⟨w.heap.size, 1, none⟩ = some (.int .i64 c) := HbX7.out.cell 1
          have x2 : w7.cell? ⟨w.heap.size, 2, none⟩ = some (.slice ua rs.length uc) := HbX7.out.cell 2
          have hcj7 : w7.cell? ⟨gl, j, none⟩ = some (.string (mk nm)) := (Hb7.out.cell (p := ⟨gl, j, none⟩) hgs).trans hcj
          have l7 : w.heap.size < w7.heap.size := HbX7.out.lt
          have lg7 : gl < w7.heap.size := by have := Hb7.out.size; omega
          clear hcj hb7
          obtain ⟨WA, hWA⟩ : ∃ W, W = (w7.alloc (.cells #[.int .i64 r, .string (mk nm), .int .i64 c, .slice none 0 0] 72)).drew := ⟨_, rfl⟩
          have HA1 := Lib.hid (show WA.ownsRow B 72 4 (.slice ua rs.length uc) rs.length (rs.flatMap drCells) by rw [hWA]; exact owns_drwE (Hown7.out.1.alloc _))
          have HA2 := Lib.hid (show WA.ownsRow w7.heap.size 72 4 (.slice (some ⟨w7.heap.size, 0, none⟩) 1 1) 1 (drCells ((⟨r, nm, c, []⟩ : Dr), Value.slice none 0 0)) by rw [hWA]; exact owns_drwE (World.ownsRow_lit (size := 4) w7 (drCells ((⟨r, nm, c, []⟩ : Dr), Value.slice none 0 0)).toArray 1 (Nat.le_refl _) (by unfold maxLen; omega) rfl))
          have HA3 := Lib.hid (show HB WA w.heap.size 28 #[.slice va vn' vk, .int .i64 c, .slice ua rs.length uc] by rw [hWA]; exact (HbX7.out.alloc _).drew)
          have HA5 := Lib.hid (show OwnDirs WA B (.slice ua rs.length uc) rs by rw [hWA]; exact Hown7.out.below (bd (ba (Below.refl _ _) _)))
          have HA6 := Lib.hid (show HB WA (w.heap.size + 1) 28 #[.slice none 0 0, .int .i64 0, .slice none 0 0] by rw [hWA]; exact (HbX71.out.alloc _).drew)
          have HA7 := Lib.hid (show WA.ownsRow (w.heap.size + 2) 9 1 (.slice (some ⟨gl, 0, none⟩) L.length c9) L.length (L.map sv) by rw [hWA]; exact owns_drwE (Hnm7.out.alloc _))
          have HA8 := Lib.hid (show Below wr.heap.size wr WA by rw [hWA]; exact bd (ba Hb7.out _))
          have hA4 : B ≤ WA.heap.size := by rw [hWA]; show B ≤ (w7.alloc _).heap.size; simp; omega
          have HAe := Lib.hid hWA
          clear hWA
          go_wp2_with fail
          go_region_law (go_loud (rw [← HAe.out]; refine step_append_both rfl (.tmp 34) (.tmp 43) 26 rfl B 72 i0 _ 4 56 Try.underlying26 Hi.out Hz0.out Hz1.out Hz2.out rfl (by decide) (.slice ua rs.length uc) rs.length (rs.flatMap drCells) (by simp [Act.eval, Act.put]) HA1.out w7.heap.size (.slice (some ⟨w7.heap.size, 0, none⟩) 1 1) 1 (drCells ((⟨r, nm, c, []⟩ : Dr), Value.slice none 0 0)) (by simp [Act.eval, Act.put]) HA2.out (dir_one _ ⟨_, _, _, rfl⟩) (by unfold maxLen; omega) (by omega) hA4 ?_; intro vA wA hownA hgA; obtain ⟨aA, cA, hvA⟩ := owns_shape hownA; subst hvA; have HownA := Lib.hid hownA; have HgA := Lib.hid hgA; have HbXA := Lib.hid (HA3.out.grown hgA (HA3.out.apart HA1.out (by decide))); have xA := HbXA.out.cell 2; have fA := HbXA.out.frozen 2; have lA := HbXA.out.lt; clear hownA hgA))
          all_goals
            go_wp2_with fail
            go_roundw
            case rel =>
              refine ⟨j + 1, .slice aA (rs.length + 1) cA, rs ++ [((⟨r, nm, c, []⟩ : Dr), Value.slice none 0 0)], by omega, by go_num, ?_, ?_, ?_, ?_, ?_, ?_, ?_, ?_⟩
              · rw [Hsn.out, ← Hrs.out, putDr_new Hno.out]; simp
              · have h1 : OwnDirs wA B (.slice aA (rs.length + 1) cA) (rs ++ [((⟨r, nm, c, []⟩ : Dr), Value.slice none 0 0)]) := ⟨by have h := HownA.out; simpa using h, dk_names_app (dk_names_grown HA5.out.2 HgA.out (fun b hb p hp => own_types (by decide) HA1.out (HA5.out.2.1 p hp) hb)) (World.ownsRow_nil _ _ _ _) (fun _ _ _ _ h => by cases h)⟩
                exact HbXA.out.dirs (by decide) (by decide) h1 _ _
              · have h := HbXA.out.put 2 (.slice aA (rs.length + 1) cA)
                simpa using h
              · exact (HA6.out.grown HgA.out (HA6.out.apart HA1.out (by decide))).other (by dsimp only; omega) _
              · exact owns_hbput HbXA.out (dk_kept2 HA7.out HA1.out HgA.out) (by decide) _ _
              · exact ((Hbel.out.trans (HA8.out.mono (by omega))).grown HgA.out hA4 (fun g hg => (HA1.out.lt g hg).1)).setCell (p := ⟨w.heap.size, 2, none⟩) hB _
              · exact ((Hkt.out.trans (KeepT.of_below HA8.out)).trans (KeepT.grown HA1.out HgA.out)).new (p := ⟨w.heap.size, 2, none⟩) (Nat.le_refl _) _
              · have h1 := HgA.out.size
                have h2 := HA8.out.size
                simp; omega
            case measure => simp [intOf]; omega
        · have hk' : k < rs.length := by simpa using hk
          have Hye := Lib.hid (show dirAt (rs.map (·.1)) (r, nm) = (k : Int) from hyes)
          clear hyes
          obtain ⟨gd, cd, ed, hgd1, hgd2⟩ := Hown.out.1.form (by omega)
          simp only [Value.slice.injEq] at ed
          obtain ⟨rfl, _, rfl⟩ := ed
          have hgds : gd < wr.heap.size := (Hown.out.1.lt gd rfl).2
          go_wp2_with fail
          go_region_held3 (fun w' => w'.cell? ⟨w.heap.size, 2, none⟩ = some (.slice (some ⟨gd, 0, none⟩) rs.length uc) ∧ w'.cell? ⟨gl, j, none⟩ = some (.string (mk nm)) ∧ Below wr.heap.size wr w')
            (exact Hk.out _ (by (repeat (with_reducible first | exact Below.refl _ _ | assumption | refine ba ?_ _ | refine bd ?_ | refine bdN ?_ _ | refine bs ?_ (by first | exact Nat.le_refl _ | (dsimp only; omega) | (simp; done)) _ | refine bt ?_ (by assumption)))))
            (first | (go_at_call 116; refine (spec_dirAt _ rs.length uc (rs.map (·.1)) (fun _ => True) r nm _ (Hdi.out.below (by (repeat (with_reducible first | exact Below.refl _ _ | assumption | refine ba ?_ _ | refine bd ?_ | refine bdN ?_ _ | refine bs ?_ (by first | exact Nat.le_refl _ | (dsimp only; omega) | (simp; done)) _ | refine bt ?_ (by assumption)))))).mono ?_; rintro _ w7 ⟨rfl, hb7⟩; rw [Hye.out]))
          have Hb7 := Lib.hid (show Below wr.heap.size wr w7 by (repeat (with_reducible first | exact Below.refl _ _ | assumption | refine ba ?_ _ | refine bd ?_ | refine bdN ?_ _ | refine bs ?_ (by first | exact Nat.le_refl _ | (dsimp only; omega) | (simp; done)) _ | refine bt ?_ (by assumption))))
          have HbX7 := Lib.hid (Hbx.out.step Hb7.out)
          have HbX71 := Lib.hid (Hbx1.out.step Hb7.out)
          have Hown7 := Lib.hid (Hown.out.below Hb7.out)
          have Hnm7 := Lib.hid (owns_below Hnm.out Hb7.out)
          have hB7 : B ≤ w7.heap.size := by have := Hb7.out.size; omega
          clear x1 x2 hcj
          have x1 : w7.cell? ⟨w.heap.size, 1, none⟩ = some (.int .i64 c) := HbX7.out.cell 1
          have x2 : w7.cell? ⟨w.heap.size, 2, none⟩ = some (.slice (some ⟨gd, 0, none⟩) rs.length uc) := HbX7.out.cell 2
          obtain ⟨⟨_, _, c2, _⟩, _, _, z2, _⟩ := own4 Hown7.out.1 k hk'
          have hkI : (k : Int) < (rs.length : Int) := by omega
          have hk00 : ¬ (k : Int) < 0 := by omega
          clear hb7
          go_wp2_with fail
          have hne0 : w.heap.size ≠ gd := fun e => HbX7.out.apart Hown7.out.1 (by decide) (by rw [e]; rfl)
          have hne1 : w.heap.size + 1 ≠ gd := fun e => HbX71.out.apart Hown7.out.1 (by decide) (by rw [e]; rfl)
          refine ⟨⟨j + 1, .slice (some ⟨gd, 0, none⟩) rs.length uc, rs.set k ((⟨rs[k].1.root, rs[k].1.pack, c, rs[k].1.names⟩ : Dr), rs[k].2), by omega, by go_num, ?_, dirs_stamp Hown7.out k hk' c, HbX7.out.other hne0 _, HbX71.out.other hne1 _, dk_set_other Hnm7.out (fun b hb e => own_types (T := 72) (T' := 9) (by decide) Hown7.out.1 Hnm7.out (b := gd) rfl (by rw [hb, e])) _, (Hbel.out.trans (Hb7.out.mono (by omega))).setCell (p := ⟨gd, k * 4 + 2, none⟩) (Hown.out.1.lt gd rfl).1 _, (Hkt.out.trans (KeepT.of_below Hb7.out)).trans (KeepT.put (p := ⟨gd, k * 4 + 2, none⟩) Hown7.out.1 rfl _), by have := Hb7.out.size; simp; omega⟩, by simp [intOf]; omega⟩
          rw [Hsn.out, ← Hrs.out, putDr_stamp (k := k) hk Hye.out (by rw [List.getElem_map]; exact Hrn.out _ (List.getElem_mem hk')), List.map_set]
          simp
      · obtain rfl : j = L.length := by omega
        rw [List.take_length] at Hrs
        have x0 : wr.cell? ⟨w.heap.size, 0, none⟩ = some (.slice va vn' vk) := Hbx.out.cell 0
        have x1 : wr.cell? ⟨w.heap.size, 1, none⟩ = some (.int .i64 c) := Hbx.out.cell 1
        have x2 : wr.cell? ⟨w.heap.size, 2, none⟩ = some (.slice ua rs.length uc) := Hbx.out.cell 2
        have r0 := Hbx1.out.cell 0
        have r1 := Hbx1.out.cell 1
        have r2 := Hbx1.out.cell 2
        have f0 := Hbx1.out.frozen 0
        have f1 := Hbx1.out.frozen 1
        have f2 := Hbx1.out.frozen 2
        have l1 := Hbx1.out.lt
        go_wp2_with fail
        refine bodyPost_ret (v := .agg #[.slice va vn' vk, .int .i64 c, .slice ua rs.length uc]) (by simp [results, Try.results89, go_sem, r0, r1, r2]) rfl ?_
        refine ⟨.slice ua rs.length uc, rfl, rs, Hrs.out, ?_, ?_, ?_⟩
        · exact (Hbx1.out.put _ _ |>.put _ _).dirs (by decide) (by decide) ((Hbx1.out.put _ _).dirs (by decide) (by decide) (Hbx1.out.dirs (by decide) (by decide) Hown.out _ _) _ _) _ _
        · exact ((Hbel.out.setCell (p := ⟨w.heap.size + 1, 0, none⟩) (by dsimp only; omega) _).setCell (p := ⟨w.heap.size + 1, 1, none⟩) (by dsimp only; omega) _).setCell (p := ⟨w.heap.size + 1, 2, none⟩) (by dsimp only; omega) _
        · exact ((Hkt.out.new (p := ⟨w.heap.size + 1, 0, none⟩) (by dsimp only; omega) _).new (p := ⟨w.heap.size + 1, 1, none⟩) (by dsimp only; omega) _).new (p := ⟨w.heap.size + 1, 2, none⟩) (by dsimp only; omega) _
end Go.Proofs.Ytgecemngfpgcoaa
