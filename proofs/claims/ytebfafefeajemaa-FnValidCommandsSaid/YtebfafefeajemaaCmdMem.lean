/- Words for memory that holds rows of Command, and contracts of the exact laws' looks at them. Written by mkflat.py. -/
import Derived.Test.YtebfafefeajemaaSzTree
import Derived.Test.YtebfafefeajemaaReadIn
import Derived.Test.YtebfafefeajemaaPlainM
set_option linter.unusedVariables false
set_option linter.unusedSimpArgs false
namespace Go.Proofs.Ytebfafefeajemaa.Nm
open Go.RowKit

/-- The slice v reads as the row cs in w, in a block of D. -/
def CmdsIn (w : World) (D : Nat → Prop) (v : Value) (cs : List Cmd) : Prop :=
  ∃ a cap, v = .slice a cs.length cap ∧ cs.length ≤ cap ∧ cap ≤ maxLen ∧
    (0 < cs.length → ∃ b off, a = some ⟨b, off, none⟩ ∧ D b ∧ b < w.heap.size ∧
      ∀ i (h : i < cs.length), w.cell? ⟨b, off + i * 2, none⟩ = some (.int .i64 cs[i].kind) ∧ w.cell? ⟨b, off + i * 2 + 1, none⟩ = some (.string (mk cs[i].name)))
theorem CmdsIn.keep {w w' : World} {D : Nat → Prop} {v : Value} {cs : List Cmd} (h : CmdsIn w D v cs) (hs : w.heap.size ≤ w'.heap.size) (hk : ∀ b, D b → b < w.heap.size → w'.heap[b]? = w.heap[b]?) : CmdsIn w' D v cs := by
  obtain ⟨a, cap, h1, h2, h3, h4⟩ := h
  refine ⟨a, cap, h1, h2, h3, fun hx => ?_⟩
  obtain ⟨b, off, e1, e2, e3, e4⟩ := h4 hx
  refine ⟨b, off, e1, e2, Nat.lt_of_lt_of_le e3 hs, fun i hi => ?_⟩
  have hc : ∀ o, w'.cell? ⟨b, o, none⟩ = w.cell? ⟨b, o, none⟩ := fun o => by rw [World.cell?_of_block (w := w) (hk b e2 e3)]
  simp only [hc]
  exact e4 i hi
theorem CmdsIn.below {w w' : World} {D : Nat → Prop} {v : Value} {cs : List Cmd} (h : CmdsIn w D v cs) (hb : Below w.heap.size w w') : CmdsIn w' D v cs := h.keep hb.size (fun b _ hlt => hb.block b hlt)
theorem CmdsIn.mono {w : World} {D D' : Nat → Prop} {v : Value} {cs : List Cmd} (h : CmdsIn w D v cs) (hd : ∀ b, b < w.heap.size → D b → D' b) : CmdsIn w D' v cs := by
  obtain ⟨a, cap, h1, h2, h3, h4⟩ := h
  refine ⟨a, cap, h1, h2, h3, fun hx => ?_⟩
  obtain ⟨b, off, e1, e2, e3, e4⟩ := h4 hx
  exact ⟨b, off, e1, hd b e3 e2, e3, e4⟩
theorem CmdsIn.len {w : World} {D : Nat → Prop} {v : Value} {cs : List Cmd} (h : CmdsIn w D v cs) : ∃ a cap, v = .slice a cs.length cap ∧ cs.length ≤ cap ∧ cap ≤ maxLen := by
  obtain ⟨a, cap, h1, h2, h3, _⟩ := h
  exact ⟨a, cap, h1, h2, h3⟩
theorem CmdsIn.at_ {w : World} {D : Nat → Prop} {v : Value} {cs : List Cmd} (h : CmdsIn w D v cs) {i : Nat} (hi : i < cs.length) : ∃ b off cap, v = .slice (some ⟨b, off, none⟩) cs.length cap ∧ D b ∧ b < w.heap.size ∧ w.cell? ⟨b, off + i * 2, none⟩ = some (.int .i64 cs[i].kind) ∧ w.cell? ⟨b, off + i * 2 + 1, none⟩ = some (.string (mk cs[i].name)) := by
  obtain ⟨a, cap, h1, h2, h3, h4⟩ := h
  obtain ⟨b, off, e1, e2, e3, e4⟩ := h4 (by omega)
  subst e1
  exact ⟨b, off, cap, h1, e2, e3, e4 i hi⟩
/-- Their texts are not too long. -/
def ShortCmd (B : Nat) (cs : List Cmd) : Prop := ∀ c ∈ cs, c.name.length ≤ B
def cmdCells (s : Cmd) : List Value := [.int .i64 s.kind, .string (mk s.name)]
theorem cmdCells_len (s : Cmd) : (cmdCells s).length = 2 := rfl
theorem cmd_list {l : List Value} (h : l.length = 2) : ∃ a0 a1, l = [a0, a1] := by
  match l, h with
  | [a0, a1], _ => exact ⟨a0, a1, rfl⟩
section
variable {w : World} {B e g cap n : Nat}
theorem own_cmd {L : List Cmd} (h : w.ownsRow B e 2 (.slice (some ⟨g, 0, none⟩) n cap) n (L.flatMap cmdCells)) (i : Nat) (hi : i < L.length) :
    (w.cell? ⟨g, i * 2, none⟩ = some (.int .i64 L[i].kind) ∧ w.cell? ⟨g, i * 2 + 1, none⟩ = some (.string (mk L[i].name))) ∧ (w.frozen? ⟨g, i * 2, none⟩ = false ∧ w.frozen? ⟨g, i * 2 + 1, none⟩ = false) := by
  have hl := fm_len cmdCells 2 L cmdCells_len
  have hn : (L.flatMap cmdCells).length = n * 2 := h.1
  have hc : ∀ j, j < 2 → w.cell? ⟨g, i * 2 + j, none⟩ = (cmdCells L[i])[j]? := fun j hj => by
    rw [h.cellAt (i * 2 + j) (by omega), fm_get cmdCells 2 L i j hi hj cmdCells_len]
  exact ⟨⟨hc 0 (by omega), hc 1 (by omega)⟩, h.frozenAt _, h.frozenAt _⟩
theorem own_cmd_put {L : List Cmd} (h : w.ownsRow B e 2 (.slice (some ⟨g, 0, none⟩) n cap) n (L.flatMap cmdCells)) (i : Nat) (hi : i < L.length) (s : Cmd) :
    (((w.setCell ⟨g, i * 2, none⟩ (.int .i64 s.kind)).setCell ⟨g, i * 2 + 1, none⟩ (.string (mk s.name)))).ownsRow B e 2 (.slice (some ⟨g, 0, none⟩) n cap) n ((L.set i s).flatMap cmdCells) := by
  have h5 := ((h.stored (i * 2) (.int .i64 s.kind)).1.stored (i * 2 + 1) (.string (mk s.name))).1
  have hA := fm_take_len cmdCells 2 L i hi cmdCells_len
  obtain ⟨a0, a1, ha⟩ := cmd_list (cmdCells_len L[i])
  rw [fm_split cmdCells L i hi, ha] at h5
  rw [fm_put cmdCells L i s hi]
  have s0 : ((L.take i).flatMap cmdCells ++ ([a0, a1] ++ (L.drop (i + 1)).flatMap cmdCells)).set (i * 2) (.int .i64 s.kind) = (L.take i).flatMap cmdCells ++ ([a0, a1].set 0 (.int .i64 s.kind) ++ (L.drop (i + 1)).flatMap cmdCells) := set_mid _ _ _ (i * 2) 0 _ hA (by simp)
  rw [s0, set_mid _ _ _ (i * 2) 1 _ hA (by simp)] at h5
  exact h5
end
def zeroCmd : Cmd := ⟨0, []⟩
theorem made_cmd (n : Nat) : (madeCells #[.int .i64 0, .string ByteArray.empty] (n * 2)).toList = (List.replicate n zeroCmd).flatMap cmdCells := by
  rw [made_cells _ 2 rfl (by omega), List.flatMap_def, List.map_replicate]; rfl
theorem CmdsIn.of_owns {w : World} {B : Nat} {e : TypeId} {v : Value} {cs : List Cmd} {D : Nat → Prop} (h : w.ownsRow B e 2 v cs.length (cs.flatMap cmdCells)) (hD : ∀ g, B ≤ g → D g) : CmdsIn w D v cs := by
  rcases h.2 with ⟨h1, h2⟩ | ⟨g, cap, cur, h1, h2, h3, h4, h5, h6, h7⟩
  · exact ⟨none, 0, by rw [h1, h2], by omega, by unfold maxLen; omega, fun hx => absurd hx (by omega)⟩
  · subst h1
    refine ⟨_, cap, rfl, h4, h5, fun _ => ⟨g, 0, rfl, hD g h2, (Array.getElem?_eq_some_iff.1 h3).1, fun i hi => ?_⟩⟩
    simpa using (own_cmd h i hi).1
end Go.Proofs.Ytebfafefeajemaa.Nm
namespace Go.Proofs.Ytebfafefeajemaa
open Go.RowKit Go.ChangeShapes Go.WideShapes Go.Deep Go.Proofs.Ytebfafefeajemaa.Nm

def cmdCost (c : Cmd) : Nat := c.name.length
def cmdsCost (cs : List Cmd) : Nat := cs.length + (cs.map cmdCost).sum
theorem shortCmd_of {cs : List Cmd} {B : Nat} (h : cmdsCost cs ≤ B) : ShortCmd B cs := fun c hc => by
  have := mem_sum cmdCost hc
  have e : cmdCost c = c.name.length := rfl
  unfold cmdsCost at h
  omega
theorem shortCmd_mono {A B : Nat} (h : A ≤ B) {cs : List Cmd} (hs : ShortCmd A cs) : ShortCmd B cs := fun c hc => Nat.le_trans (hs c hc) h
def sameCmd (a b : Cmd) : Bool := decide (a = b)
def sameCmds (a b : List Cmd) : Bool := decide (a = b)

set_option maxRecDepth 100000 in
set_option maxHeartbeats 1000000 in
theorem laws_szCommand (x0 : Int) (x1 : Bs) (left : Nat) (w : World) (hm1 : x1.length ≤ maxLen) (hl : left ≤ 1048576) :
    Calls Try.prog 112 #[.agg #[.int .i64 x0, .string (mk x1)], .int .i64 left] w (SzB (x1.length) left w) := by
  unfold maxLen at hm1
  by_cases h1 : (left : Int) - ((x1.length : Nat) : Int) < 0
  · go_enter Try.func112, Try.ntmps112
    go_wp2_with fail
    go_ret
    exact ⟨-1, rfl, .inr rfl, by (repeat (with_reducible first | exact Below.refl _ _ | assumption | refine ba ?_ _ | refine bd ?_ | refine bdN ?_ _ | refine bs ?_ (by first | exact Nat.le_refl _ | (dsimp only; omega) | (simp; done)) _ | refine bt ?_ (by assumption)))⟩
  · go_enter Try.func112, Try.ntmps112
    go_wp2_with fail
    go_ret
    exact ⟨_, rfl, .inl ⟨by omega, by omega⟩, by (repeat (with_reducible first | exact Below.refl _ _ | assumption | refine ba ?_ _ | refine bd ?_ | refine bdN ?_ _ | refine bs ?_ (by first | exact Nat.le_refl _ | (dsimp only; omega) | (simp; done)) _ | refine bt ?_ (by assumption)))⟩
set_option maxRecDepth 100000 in
set_option maxHeartbeats 1000000 in
theorem laws_szCommandS (v : Value) (cs : List Cmd) (D : Nat → Prop) (left : Nat) (w : World) (hr : CmdsIn w D v cs) (hz : ShortCmd maxLen cs) (hl : left ≤ 1048576) :
    Calls Try.prog 60 #[v, .int .i64 left] w (SzB (cmdsCost cs) left w) := by
  have Hr := Lib.hid hr
  have Hz := Lib.hid hz
  obtain ⟨aa, ca, rfl, hlc, hm⟩ := hr.len
  unfold maxLen at hm
  clear hr hz
  by_cases h0 : (left : Int) - (cs.length : Int) < 0
  · go_enter Try.func60, Try.ntmps60
    go_wp2_with fail
    go_ret
    exact ⟨-1, rfl, .inr rfl, by (repeat (with_reducible first | exact Below.refl _ _ | assumption | refine ba ?_ _ | refine bd ?_ | refine bdN ?_ _ | refine bs ?_ (by first | exact Nat.le_refl _ | (dsimp only; omega) | (simp; done)) _ | refine bt ?_ (by assumption)))⟩
  · have hw : (left : Int) - (cs.length : Int) = ((left - cs.length : Nat) : Int) := by omega
    go_enter Try.func60, Try.ntmps60
    go_wp2_with fail
    go_loopw [1, 5] (fun lv iv wr => ∃ (i L : Nat), i ≤ cs.length ∧ iv = .int .i64 i ∧ lv = .int .i64 L ∧ L + (cs.length + ((cs.take i).map cmdCost).sum) ≤ left ∧ Below w.heap.size w wr) (fun _ iv _ => cs.length - (intOf iv).toNat)
    case atStart => exact ⟨0, left - cs.length, by omega, rfl, by first | rfl | go_num | simp [hw], by simp; omega, Below.refl _ _⟩
    case round =>
      obtain ⟨i, L, hi, rfl, rfl, hL, hbel⟩ := hrel
      have HL := Lib.hid hL
      have hLl : L ≤ 1048576 := by omega
      clear hL h0 hw
      by_cases hlt : i < cs.length
      · obtain ⟨b, off, cap, e, hD, hb, c0, c1⟩ := (Hr.out.below hbel).at_ hlt
        simp only [Value.slice.injEq] at e
        obtain ⟨rfl, _, rfl⟩ := e
        have z1 := Hz.out _ (List.getElem_mem hlt)
        have Hs := Lib.hid (sum_snoc cmdCost cs i hlt)
        have Hs2 := Lib.hid (fun (c : Cmd) => (show cmdCost c = c.name.length from rfl))
        generalize cs[i] = s at *
        obtain ⟨x0, x1⟩ := s
        dsimp only at c0 c1 z1
        go_wp2_with (go_at_call 112; refine (laws_szCommand _ _ L _ z1 hLl).mono ?_; rintro _ _ ⟨r, rfl, hr, hb2⟩; obtain ⟨hc, hf, hs⟩ := bcell hb2)
        · have h : r < 0 := by assumption
          go_ret
          exact ⟨-1, rfl, .inr rfl, by (repeat (with_reducible first | exact Below.refl _ _ | assumption | refine ba ?_ _ | refine bd ?_ | refine bdN ?_ _ | refine bs ?_ (by first | exact Nat.le_refl _ | (dsimp only; omega) | (simp; done)) _ | refine bt ?_ (by assumption)))⟩
        · rcases hr with ⟨hr0, hr1⟩ | hr1
          · obtain ⟨R, rfl⟩ := Int.eq_ofNat_of_zero_le hr0
            go_roundw
            case rel => exact ⟨i + 1, R, by omega, by go_num, rfl, by have h1 := HL.out; have h2 := Hs.out; have h3 := Hs2.out ⟨x0, x1⟩; dsimp only at h3; omega, by (repeat (with_reducible first | exact Below.refl _ _ | assumption | refine ba ?_ _ | refine bd ?_ | refine bdN ?_ _ | refine bs ?_ (by first | exact Nat.le_refl _ | (dsimp only; omega) | (simp; done)) _ | refine bt ?_ (by assumption)))⟩
            case measure => simp [intOf]; omega
          · exact absurd hr1 (by omega)
      · obtain rfl : i = cs.length := by omega
        have Hf := Lib.hid (show L + cmdsCost cs ≤ left by have := HL.out; rw [List.take_length] at this; exact this)
        go_wp2_with fail
        go_ret
        exact ⟨L, rfl, .inl ⟨by omega, by have := Hf.out; omega⟩, hbel⟩
theorem infoCmd : (Try.prog.info? 136).map (fun i => (i.zero, i.size, i.bytes)) = some (some (.agg #[.int .i64 0, .string ByteArray.empty]), 2, 24) := by kernel_rfl
set_option maxRecDepth 100000 in
set_option maxHeartbeats 1000000 in
theorem laws_toCommand (x0 : Int) (x1 : Bs) (w : World) :
    Calls Try.prog 114 #[.agg #[.int .i64 x0, .string (mk x1)]] w fun e w' => e = .returned (.agg #[.int .i64 x0, .string (mk x1)]) ∧ Below w.heap.size w w' := by
  go_enter Try.func114, Try.ntmps114
  go_wp2_with fail
  exact bodyPost_ret (v := .agg #[.int .i64 x0, .string (mk x1)]) (by simp [results, Try.results114, go_sem]) rfl ⟨rfl, by (repeat (with_reducible first | exact Below.refl _ _ | assumption | refine ba ?_ _ | refine bd ?_ | refine bdN ?_ _ | refine bs ?_ (by first | exact Nat.le_refl _ | (dsimp only; omega) | (simp; done)) _ | refine bt ?_ (by assumption)))⟩
/-- What a function that returns a new row of them comes to. -/
def NewCmds (cs : List Cmd) (w : World) (e : Ending) (w' : World) : Prop :=
  ∃ v, e = .returned v ∧ w'.ownsRow w.heap.size 136 2 v cs.length (cs.flatMap cmdCells) ∧ Below w.heap.size w w'
set_option maxRecDepth 100000 in
set_option maxHeartbeats 1000000 in
theorem laws_toCommandS (v : Value) (cs : List Cmd) (D : Nat → Prop) (w : World) (hr : CmdsIn w D v cs) (hl : cs.length ≤ 1048576) :
    Calls Try.prog 62 #[v] w (NewCmds cs w) := by
  obtain ⟨i0, hi, hz0, hz1, hz2⟩ := info_parts infoCmd
  have Hr := Lib.hid hr
  obtain ⟨aa, ca, rfl, hlc, hm⟩ := hr.len
  unfold maxLen at hm
  have Hi := Lib.hid hi
  have Hz0 := Lib.hid hz0
  have Hz1 := Lib.hid hz1
  have Hz2 := Lib.hid hz2
  clear hr hi hz0 hz1 hz2
  go_enter Try.func62, Try.ntmps62
  go_wp2_with (at_make; refine wpList_make_full _ rfl _ _ 86 rfl w.heap.size 136 i0 _ 2 Try.underlying86 Hi.out Hz0.out Hz1.out .i64 .i64 _ _ cs.length rfl rfl rfl rfl (by rw [Hz2.out]; omega) (by unfold maxLen; omega) (Nat.le_refl _) ?_; intro w1 hown1 hg1)
  have hown2 : w1.ownsRow w.heap.size 136 2 (.slice (some ⟨w.heap.size, 0, none⟩) cs.length cs.length) cs.length ((cs.take 0 ++ List.replicate (cs.length - 0) zeroCmd).flatMap cmdCells) := by
    have e := made_cmd cs.length
    simp only [List.take_zero, List.nil_append, Nat.sub_zero]
    rw [← e]; exact hown1
  have hb1 : Below w.heap.size w w1 := (Below.refl _ _).grown hg1 (Nat.le_refl _) (fun k hk => by cases hk)
  have Hown2 := Lib.hid hown2
  have Hb1 := Lib.hid hb1
  clear hown1 hown2 hg1 hb1
  go_wp2_with fail
  go_loopw [4] (fun iv wr => ∃ i : Nat, i ≤ cs.length ∧ iv = .int .i64 i ∧ wr.ownsRow w.heap.size 136 2 (.slice (some ⟨w.heap.size, 0, none⟩) cs.length cs.length) cs.length ((cs.take i ++ List.replicate (cs.length - i) zeroCmd).flatMap cmdCells) ∧ Below w.heap.size w wr) (fun iv _ => cs.length - (intOf iv).toNat)
  case atStart => exact ⟨0, by omega, rfl, Hown2.out, Hb1.out⟩
  case round =>
    obtain ⟨i, hi, rfl, ho, hbel⟩ := hrel
    have Ho := Lib.hid ho
    clear ho Hown2 Hb1
    by_cases hlt : i < cs.length
    · obtain ⟨b, off, cap, e, hD, hb, c0, c1⟩ := (Hr.out.below hbel).at_ hlt
      simp only [Value.slice.injEq] at e
      obtain ⟨rfl, _, rfl⟩ := e
      have Hp := Lib.hid (fill_put cs zeroCmd i hlt)
      have Hfl := Lib.hid (fill_len cs zeroCmd i hi)
      generalize cs[i] = s at *
      obtain ⟨x0, x1⟩ := s
      dsimp only at c0 c1
      generalize cs.take i ++ List.replicate (cs.length - i) zeroCmd = L at *
      go_wp2_with (go_at_call 114; refine (laws_toCommand _ _ _).mono ?_; rintro _ w5 ⟨rfl, hb5⟩; have ho5 := Lib.hid (owns_below Ho.out hb5); obtain ⟨⟨d0, d1⟩, g0, g1⟩ := own_cmd ho5.out i (by rw [Hfl.out]; exact hlt))
      have Hb6 := Lib.hid (show Below w.heap.size w w5 by (repeat (with_reducible first | exact Below.refl _ _ | assumption | refine ba ?_ _ | refine bd ?_ | refine bdN ?_ _ | refine bs ?_ (by first | exact Nat.le_refl _ | (dsimp only; omega) | (simp; done)) _ | refine bt ?_ (by assumption))))
      have Hput := Lib.hid (own_cmd_put ho5.out i (by rw [Hfl.out]; exact hlt) ⟨x0, x1⟩)
      rw [Hp.out] at Hput
      go_roundw
      case rel => exact ⟨i + 1, by omega, by go_num, Hput.out, bs (bs (Hb6.out) (Nat.le_refl _) _) (Nat.le_refl _) _⟩
      case measure => simp [intOf]; omega
    · obtain rfl : i = cs.length := by omega
      have Ho2 := Lib.hid (show wr.ownsRow w.heap.size 136 2 (.slice (some ⟨w.heap.size, 0, none⟩) cs.length cs.length) cs.length (cs.flatMap cmdCells) by simpa using Ho.out)
      go_wp2_with fail
      go_ret
      exact ⟨_, rfl, Ho2.out, hbel⟩
set_option maxRecDepth 100000 in
set_option maxHeartbeats 1000000 in
theorem laws_eqCommand (x0 : Int) (x1 : Bs) (x0' : Int) (x1' : Bs) (w : World) :
    Calls Try.prog 117 #[.agg #[.int .i64 x0, .string (mk x1)], .agg #[.int .i64 x0', .string (mk x1')]] w fun e w' => e = .returned (.bool (sameCmd ⟨x0, x1⟩ ⟨x0', x1'⟩)) ∧ Below w.heap.size w w' := by
  go_enter Try.func117, Try.ntmps117
  go_wp2_with fail
  all_goals (go_ret; refine ⟨ret_bool ?_, by (repeat (with_reducible first | exact Below.refl _ _ | assumption | refine ba ?_ _ | refine bd ?_ | refine bdN ?_ _ | refine bs ?_ (by first | exact Nat.le_refl _ | (dsimp only; omega) | (simp; done)) _ | refine bt ?_ (by assumption)))⟩; simp_all [sameCmd, beq_bs', beq_dec, bne_bs, bne_int])
theorem sameCmds_no {a b : List Cmd} {k : Nat} (h1 : k < a.length) (h2 : k < b.length) (h : sameCmd a[k] b[k] = false) : sameCmds a b = false :=
  decide_eq_false (fun e => by subst e; exact of_decide_eq_false h rfl)
set_option maxRecDepth 100000 in
set_option maxHeartbeats 1000000 in
theorem laws_eqCommandS (v v' : Value) (cs cs' : List Cmd) (D D' : Nat → Prop) (w : World) (hr : CmdsIn w D v cs) (hr' : CmdsIn w D' v' cs') :
    Calls Try.prog 64 #[v, v'] w fun e w' => e = .returned (.bool (sameCmds cs cs')) ∧ Below w.heap.size w w' := by
  have Hr := Lib.hid hr
  have Hr' := Lib.hid hr'
  obtain ⟨aa, ca, rfl, hl, hm⟩ := hr.len
  obtain ⟨aa', ca', rfl, hl', hm'⟩ := hr'.len
  unfold maxLen at hm hm'
  clear hr hr'
  by_cases he : cs.length = cs'.length
  · have He := Lib.hid he
    rw [← he]
    rw [← he] at Hr'
    clear he
    go_enter Try.func64, Try.ntmps64
    go_wp2_with fail
    go_loopw [5] (fun iv wr => ∃ k : Nat, k ≤ cs.length ∧ iv = .int .i64 k ∧ Below w.heap.size w wr ∧ ∀ i (h1 : i < cs.length) (h2 : i < cs'.length), i < k → cs[i] = cs'[i]) (fun iv _ => cs.length - (intOf iv).toNat)
    case atStart => exact ⟨0, by omega, rfl, Below.refl _ _, fun i _ _ h => absurd h (by omega)⟩
    case round =>
      obtain ⟨k, hk, rfl, hbel, ha⟩ := hrel
      have Ha := Lib.hid ha
      clear ha
      by_cases hlt : k < cs.length
      · have hlt' : k < cs'.length := by rw [← He.out]; exact hlt
        obtain ⟨b, off, cap, e, hD, hb, c0, c1⟩ := (Hr.out.below hbel).at_ hlt
        obtain ⟨b', off', cap', e', hD', hb', c0', c1'⟩ := (CmdsIn.below (v := .slice aa' cs'.length ca') (by have := Hr'.out; rwa [He.out] at this) hbel).at_ hlt'
        simp only [Value.slice.injEq] at e e'
        obtain ⟨rfl, _, rfl⟩ := e
        obtain ⟨rfl, _, rfl⟩ := e'
        have Hn := Lib.hid (sameCmds_no hlt hlt')
        obtain ⟨s, hs⟩ : ∃ s, s = cs[k] := ⟨_, rfl⟩
        obtain ⟨s', hs'⟩ : ∃ s', s' = cs'[k] := ⟨_, rfl⟩
        rw [← hs] at c0 c1 Hn
        rw [← hs'] at c0' c1' Hn
        have Hy := Lib.hid (fun (h : sameCmd s s' = true) => (show cs[k] = cs'[k] by rw [← hs, ← hs']; exact of_decide_eq_true h))
        clear hs hs'
        obtain ⟨x0, x1⟩ := s
        obtain ⟨x0', x1'⟩ := s'
        dsimp only at c0 c1 c0' c1'
        have hk1 : (k : Int) < (cs.length : Int) := by omega
        have hk0 : (0 : Int) ≤ (k : Int) := by omega
        go_wp2_with fail
        go_still_tail 8, (by kernel_rfl)
        go_wp2_with (go_at_call 117; refine (laws_eqCommand _ _ _ _ _).mono ?_; (rintro _ _ ⟨rfl, hb⟩; obtain ⟨hc, hf, hs⟩ := bcell hb))
        · have h : (!sameCmd ⟨x0, x1⟩ ⟨x0', x1'⟩) = true := by assumption
          go_ret
          rw [Hn.out (by simpa using h)]
          exact ⟨rfl, by (repeat (with_reducible first | exact Below.refl _ _ | assumption | refine ba ?_ _ | refine bd ?_ | refine bdN ?_ _ | refine bs ?_ (by first | exact Nat.le_refl _ | (dsimp only; omega) | (simp; done)) _ | refine bt ?_ (by assumption)))⟩
        · have h : (!sameCmd ⟨x0, x1⟩ ⟨x0', x1'⟩) = false := by assumption
          go_roundw
          case rel =>
            refine ⟨k + 1, by omega, by go_num, by (repeat (with_reducible first | exact Below.refl _ _ | assumption | refine ba ?_ _ | refine bd ?_ | refine bdN ?_ _ | refine bs ?_ (by first | exact Nat.le_refl _ | (dsimp only; omega) | (simp; done)) _ | refine bt ?_ (by assumption))), fun i h1 h2 hi => ?_⟩
            by_cases e : i = k
            · subst e; exact Hy.out (by simpa using h)
            · exact Ha.out i h1 h2 (by omega)
          case measure => simp [intOf]; omega
      · have hv := Lib.hid (show sameCmds cs cs' = true from decide_eq_true (List.ext_getElem He.out (fun i h1 h2 => Ha.out i h1 h2 (by omega))))
        go_wp2_with fail
        go_ret
        rw [hv.out]
        exact ⟨rfl, hbel⟩
  · have hv := Lib.hid (show sameCmds cs cs' = false from decide_eq_false (fun e => he (by rw [e])))
    have h2 : (cs.length : Int) ≠ (cs'.length : Int) := fun e => he (by omega)
    have hq : ((cs.length : Int) != (cs'.length : Int)) = true := by simpa using h2
    go_enter Try.func64, Try.ntmps64
    go_wp2_with fail
    go_ret
    rw [hv.out]
    exact ⟨rfl, Below.refl _ _⟩
section
variable {H : Type} {enc : TypeId × Value → H} {w : World} {spare : Nat → Bool} {held : Bool}
theorem rcCmd : Try.prog.cellsOf 135 = 2 := by kernel_rfl
set_option maxRecDepth 100000 in
theorem read_cmd {n : Nat} {cs : List Value} {x : DataW H × List MemPlace} (h : DataW.trod enc Try.prog w 0 spare held n 135 cs = some x) : ∃ s : Cmd, cs = cmdCells s ∧ s.name.length ≤ maxLen := by
  obtain ⟨xs, m, _, _, hl, hxl, hf⟩ := DataW.trod_struct Try.underlying135 h
  rw [rcCmd] at hl
  match cs, hl with
  | [c0, c1], _ =>
    have hs : ∀ i, i < 2 → (xs[i]?).isSome = true := fun i hi => by rw [List.getElem?_eq_getElem (by rw [hxl]; exact hi)]; rfl
    have f0 : DataW.trod enc Try.prog w 0 spare held m 3 [c0] = xs[0]? := by have h' := hf 0 _ rfl; simpa [rcInt, rcText, rcBool] using h'
    have f1 : DataW.trod enc Try.prog w 0 spare held m 9 [c1] = xs[1]? := by have h' := hf 1 _ rfl; simpa [rcInt, rcText, rcBool] using h'
    obtain ⟨l0, e0⟩ := read_int Try.underlying3 f0 (hs 0 (by omega))
    obtain ⟨l1, e1, b1⟩ := read_text Try.underlying9 f1 (hs 1 (by omega))
    simp at e0 e1
    subst e0 e1
    exact ⟨⟨l0, l1⟩, rfl, b1⟩
theorem read_cmds {n : Nat} {cs : List Value} {x : DataW H × List MemPlace} (h : DataW.trod enc Try.prog w 0 spare held n 83 cs = some x) :
    ∃ (a : Option Addr) (len cap : Nat) (ss : List Cmd), cs = [.slice a len cap] ∧ ss.length = len ∧ CmdsIn w (fun _ => True) (.slice a len cap) ss ∧ ShortCmd maxLen ss := by
  rcases open_slice Try.underlying83 h with ⟨rfl, _⟩ | ⟨a, len, cap, m, k, D, Pl, rfl, _, hl, hm, hmm, _, hi⟩
  · exact ⟨none, 0, 0, [], rfl, rfl, ⟨none, 0, rfl, by simp, by unfold maxLen; omega, fun hx => absurd hx (by simp)⟩, fun s hs => by cases hs⟩
  · rw [rcCmd] at hi
    have hlm : len ≤ m := by rw [hmm]; split <;> omega
    obtain ⟨F, hF⟩ := pick_lt (α := Cmd) ⟨0, []⟩ (p := fun i s => w.cells? 0 (a.add (i * 2)) 2 = some (cmdCells s) ∧ s.name.length ≤ maxLen) (n := m) (fun i him => by
      obtain ⟨cs', h1, h2⟩ := hi i him
      obtain ⟨s, rfl, h3⟩ := read_cmd h2
      exact ⟨s, h1, h3⟩)
    refine ⟨some a, len, cap, (List.range len).map F, rfl, by simp, ⟨some a, cap, by simp, by simpa using hl, hm, fun hx => ?_⟩, fun s hs => ?_⟩
    · have hx' : 0 < len := by simpa using hx
      obtain ⟨_, _, hc0⟩ := World.cells?_some (hF 0 (by omega)).1
      have hc00 : w.cell? (a.add 0) = some (.int .i64 (F 0).kind) := by have := hc0 0 (by omega); rw [Go.Deep.add_add] at this; exact this
      obtain ⟨b, off, spot⟩ := a
      have hspot : spot = none := by simpa [Addr.add] using World.cell?_spot hc00
      subst hspot
      have hb : b < w.heap.size := by
        have h := World.block_lt_of_cell? w _ hc00
        simpa [Addr.add] using h
      refine ⟨b, off, rfl, trivial, hb, fun i hi' => ?_⟩
      have hil : i < len := by simpa using hi'
      obtain ⟨_, _, hc⟩ := World.cells?_some (hF i (by omega)).1
      simp only [add_none] at hc
      simp only [List.getElem_map, List.getElem_range]
      exact ⟨hc 0 (by omega), hc 1 (by omega)⟩
    · rw [List.mem_map] at hs
      obtain ⟨i, hi', rfl⟩ := hs
      rw [List.mem_range] at hi'
      exact (hF i (by omega)).2
end
end Go.Proofs.Ytebfafefeajemaa
