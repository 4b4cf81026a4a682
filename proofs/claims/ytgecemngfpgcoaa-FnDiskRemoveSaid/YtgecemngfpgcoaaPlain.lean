/- Plain facts on names: lists of bytes, their parts and joins. Nothing of the program stands here. -/
import Derived.Laws.RangeAny
import Derived.Laws.RangeString
set_option linter.unusedVariables false
set_option linter.unusedSimpArgs false
namespace Go.Proofs.Ytgecemngfpgcoaa.Nm

abbrev Bs := List UInt8

/-- A letter from a to z. -/
def lower (c : UInt8) : Bool := decide (97 ≤ c.toNat) && decide (c.toNat ≤ 122)
/-- A part of a name. -/
def vp (l : Bs) : Bool := decide (1 ≤ l.length) && decide (l.length ≤ 3) && l.all lower

/-- The pieces between dots: what is done, what is under way, what is left. -/
def splitFrom : List Bs → Bs → Bs → List Bs
  | acc, cur, [] => acc ++ [cur]
  | acc, cur, c :: r => if c = 46 then splitFrom (acc ++ [cur]) [] r else splitFrom acc (cur ++ [c]) r
def split (l : Bs) : List Bs := splitFrom [] [] l

def vps (ps : List Bs) : Bool := decide (1 ≤ ps.length) && decide (ps.length ≤ 3) && ps.all vp
def vn (l : Bs) : Bool := vps (split l)
def parts (l : Bs) : List Bs := if vn l then split l else []
def vpk (l : Bs) : Bool := l.isEmpty || vn l

/-- Pieces with dots between them. -/
def join : List Bs → Bs
  | [] => []
  | p :: ps => p ++ ps.flatMap (fun q => 46 :: q)
/-- What joinWithDots does with one more piece. -/
def jstep (t p : Bs) : Bs := if !t.isEmpty && !p.isEmpty then t ++ [46] ++ p else t ++ p
def jn (ps : List Bs) : Bs := ps.foldl jstep []

theorem splitFrom_eq (acc : List Bs) (cur l : Bs) : splitFrom acc cur l = acc ++ splitFrom [] cur l := by
  induction l generalizing acc cur with
  | nil => simp [splitFrom]
  | cons c r ih =>
    simp only [splitFrom]
    split
    · rw [ih (acc ++ [cur]), ih ([] ++ [cur])]; simp
    · rw [ih]

theorem split_cons_dot (r : Bs) : split (46 :: r) = [] :: split r := by
  simp [split, splitFrom]; rw [splitFrom_eq]; rfl

theorem splitFrom_cur (cur l : Bs) : ∃ h t, split l = h :: t ∧ splitFrom [] cur l = (cur ++ h) :: t := by
  induction l generalizing cur with
  | nil => exact ⟨[], [], rfl, by simp [splitFrom]⟩
  | cons c r ih =>
    by_cases hc : c = 46
    · subst hc
      refine ⟨[], split r, split_cons_dot r, ?_⟩
      simp [splitFrom]; rw [splitFrom_eq]; rfl
    · obtain ⟨h, t, h1, h2⟩ := ih (cur ++ [c])
      obtain ⟨h', t', h1', h2'⟩ := ih [c]
      have e : split (c :: r) = splitFrom [] [c] r := by simp [split, splitFrom, hc]
      rw [h1] at h1'
      obtain ⟨rfl, rfl⟩ := List.cons.inj h1'
      refine ⟨c :: h, t, by rw [e, h2']; rfl, ?_⟩
      simp [splitFrom, hc, h2]

theorem split_cons (c : UInt8) (r : Bs) (hc : c ≠ 46) : ∃ h t, split r = h :: t ∧ split (c :: r) = (c :: h) :: t := by
  obtain ⟨h, t, h1, h2⟩ := splitFrom_cur [c] r
  exact ⟨h, t, h1, by simpa [split, splitFrom, hc] using h2⟩

theorem split_ne (l : Bs) : split l ≠ [] := by
  obtain ⟨h, t, h1, _⟩ := splitFrom_cur [] l
  simp [h1]

theorem join_split (l : Bs) : join (split l) = l := by
  induction l with
  | nil => rfl
  | cons c r ih =>
    by_cases hc : c = 46
    · subst hc
      rw [split_cons_dot]
      obtain ⟨h, t, h1, _⟩ := splitFrom_cur [] r
      rw [h1] at ih ⊢
      simp only [join, List.flatMap_cons, List.nil_append] at ih ⊢
      simp [ih]
    · obtain ⟨h, t, h1, h2⟩ := split_cons c r hc
      rw [h1] at ih
      rw [h2]
      simp only [join] at ih ⊢
      simp [ih]

theorem split_nodot {q : Bs} (h : (46 : UInt8) ∉ q) : split q = [q] := by
  induction q with
  | nil => rfl
  | cons c r ih =>
    have hc : c ≠ 46 := fun e => h (by simp [e])
    obtain ⟨a, b, h1, h2⟩ := split_cons c r hc
    rw [ih (fun hx => h (by simp [hx]))] at h1
    obtain ⟨rfl, rfl⟩ := List.cons.inj h1
    exact h2

theorem split_app {q : Bs} (r : Bs) (h : (46 : UInt8) ∉ q) : split (q ++ 46 :: r) = q :: split r := by
  induction q with
  | nil => exact split_cons_dot r
  | cons c t ih =>
    have hc : c ≠ 46 := fun e => h (by simp [e])
    obtain ⟨a, b, h1, h2⟩ := split_cons c (t ++ 46 :: r) hc
    rw [ih (fun hx => h (by simp [hx]))] at h1
    obtain ⟨rfl, rfl⟩ := List.cons.inj h1
    exact h2

theorem join_cons (p q : Bs) (qs : List Bs) : join (p :: q :: qs) = p ++ 46 :: join (q :: qs) := by simp [join]

theorem split_join (p : Bs) (ps : List Bs) (h : ∀ q ∈ p :: ps, (46 : UInt8) ∉ q) : split (join (p :: ps)) = p :: ps := by
  induction ps generalizing p with
  | nil => simpa [join] using split_nodot (h p (by simp))
  | cons q qs ih => rw [join_cons, split_app _ (h p (by simp)), ih q (fun x hx => h x (by simp at hx ⊢; exact .inr hx))]

theorem vp_nodot {l : Bs} (h : vp l = true) : (46 : UInt8) ∉ l := by
  intro hm
  simp only [vp, Bool.and_eq_true, List.all_eq_true] at h
  have := h.2 46 hm
  revert this; decide

theorem vp_ne {l : Bs} (h : vp l = true) : l ≠ [] := by
  rintro rfl; simp [vp] at h

theorem vp_len {l : Bs} (h : vp l = true) : 1 ≤ l.length ∧ l.length ≤ 3 := by
  simp only [vp, Bool.and_eq_true, decide_eq_true_eq] at h; exact h.1

theorem vps_iff {ps : List Bs} : vps ps = true ↔ (1 ≤ ps.length ∧ ps.length ≤ 3) ∧ ∀ p ∈ ps, vp p = true := by
  simp [vps, and_assoc]

theorem split_of_vps {ps : List Bs} (h : vps ps = true) : split (join ps) = ps := by
  obtain ⟨⟨h1, h2⟩, h3⟩ := vps_iff.1 h
  cases ps with
  | nil => simp at h1
  | cons p ps => exact split_join p ps (fun q hq => vp_nodot (h3 q hq))

theorem vn_join {ps : List Bs} (h : vps ps = true) : vn (join ps) = true := by
  unfold vn; rw [split_of_vps h]; exact h

theorem join_len {ps : List Bs} (h : vps ps = true) : (join ps).length ≤ 11 := by
  obtain ⟨⟨h1, h2⟩, h3⟩ := vps_iff.1 h
  match ps, h1, h2, h3 with
  | [a], _, _, h3 => have := vp_len (h3 a (by simp)); simp [join]; omega
  | [a, b], _, _, h3 => have := vp_len (h3 a (by simp)); have := vp_len (h3 b (by simp)); simp [join]; omega
  | [a, b, c], _, _, h3 => have := vp_len (h3 a (by simp)); have := vp_len (h3 b (by simp)); have := vp_len (h3 c (by simp)); simp [join]; omega

theorem vn_len {l : Bs} (h : vn l = true) : l.length ≤ 11 := by
  have := join_len (ps := split l) h
  rwa [join_split] at this

theorem vn_ne {l : Bs} (h : vn l = true) : l ≠ [] := by
  rintro rfl; revert h; decide

theorem parts_vps {l : Bs} (h : parts l ≠ []) : vps (parts l) = true ∧ parts l = split l ∧ vn l = true := by
  unfold parts at h ⊢
  split
  · rename_i h'; exact ⟨h', rfl, h'⟩
  · rename_i h'; simp [h'] at h

theorem parts_of {l : Bs} (h : vn l = true) : parts l = split l := by simp [parts, h]
theorem parts_not {l : Bs} (h : vn l = false) : parts l = [] := by simp [parts, h]
theorem parts_pos (l : Bs) : decide (0 < (parts l).length) = vn l := by
  unfold parts
  split
  · rename_i h; have := split_ne l; cases hs : split l with
    | nil => exact absurd hs this
    | cons a b => simp [h]
  · rename_i h; simp at h; simp [h]

theorem jn_eq {ps : List Bs} (h : ∀ p ∈ ps, p ≠ []) : jn ps = join ps := by
  unfold jn
  cases ps with
  | nil => rfl
  | cons p ps =>
    have hp := h p (by simp)
    have : ∀ (t : Bs), t ≠ [] → (∀ q ∈ ps, q ≠ []) → ps.foldl jstep t = t ++ ps.flatMap (fun q => 46 :: q) := by
      intro t ht hq
      induction ps generalizing t with
      | nil => simp
      | cons q qs ih =>
        have hq1 := hq q (by simp)
        have e : jstep t q = t ++ 46 :: q := by
          cases t with
          | nil => exact absurd rfl ht
          | cons => cases q with
            | nil => exact absurd rfl hq1
            | cons => simp [jstep]
        simp only [List.foldl_cons, e]
        rw [ih (fun p hp => h p (by simp at hp ⊢; rcases hp with hp | hp; exact .inl hp; exact .inr (.inr hp))) _ (by simp) (fun x hx => hq x (by simp [hx]))]
        simp
    simp only [List.foldl_cons, join]
    have e0 : jstep [] p = p := by simp [jstep]
    rw [e0]
    exact this p hp (fun q hq => h q (by simp [hq]))

/-! ### One step of the splitting: from place f on the piece under way, at place k -/
theorem sf_dot (l : Bs) (acc : List Bs) (f k : Nat) (hk : k < l.length) (hc : l[k] = 46) :
    splitFrom acc ((l.drop f).take (k - f)) (l.drop k) = splitFrom (acc ++ [(l.drop f).take (k - f)]) ((l.drop (k + 1)).take (k + 1 - (k + 1))) (l.drop (k + 1)) := by
  rw [List.drop_eq_getElem_cons hk]; simp [splitFrom, hc]

theorem sf_else (l : Bs) (acc : List Bs) (f k : Nat) (hf : f ≤ k) (hk : k < l.length) (hc : l[k] ≠ 46) :
    splitFrom acc ((l.drop f).take (k - f)) (l.drop k) = splitFrom acc ((l.drop f).take (k + 1 - f)) (l.drop (k + 1)) := by
  rw [List.drop_eq_getElem_cons hk]
  have e : (l.drop f).take (k + 1 - f) = (l.drop f).take (k - f) ++ [l[k]] := by
    have h1 : k + 1 - f = (k - f) + 1 := by omega
    rw [h1, List.take_succ_eq_append_getElem (by simp; omega)]
    congr 2
    simp; congr 1; omega
  rw [e]; simp [splitFrom, hc]

theorem sf_end (l : Bs) (acc : List Bs) (f k : Nat) (hk : l.length ≤ k) :
    splitFrom acc ((l.drop f).take (k - f)) (l.drop k) = acc ++ [l.drop f] := by
  rw [List.drop_eq_nil_of_le hk, List.take_of_length_le (by simp; omega)]; rfl

theorem sf_start (l : Bs) : splitFrom [] ((l.drop 0).take (0 - 0)) (l.drop 0) = split l := by simp [split]

theorem sf_skip (l : Bs) (acc : List Bs) (f k n : Nat) (hf : f ≤ k) (hk : k + n ≤ l.length) (hc : ∀ j, k ≤ j → (h : j < l.length) → j < k + n → l[j] ≠ 46) :
    splitFrom acc ((l.drop f).take (k - f)) (l.drop k) = splitFrom acc ((l.drop f).take (k + n - f)) (l.drop (k + n)) := by
  induction n with
  | zero => rfl
  | succ n ih =>
    rw [ih (by omega) (fun j h1 h2 h3 => hc j h1 h2 (by omega))]
    exact sf_else l acc f (k + n) (by omega) (by omega) (hc (k + n) (by omega) (by omega) (by omega))

/-- A rune that is no single byte is made of bytes from 128 on, all of them in the text. -/
theorem decode_skip (s : ByteArray) (pos : Nat) (h : pos < s.size) (ha : 128 ≤ (s[pos]'h).toNat) :
    pos + (Utf8.decode s pos).2 ≤ s.size ∧ ∀ d, d < (Utf8.decode s pos).2 → 128 ≤ (s.get! (pos + d)).toNat := by
  have hn : ¬ (s[pos]'h).toNat < 128 := by omega
  have hb := get_at s pos h
  have h0 : 128 ≤ (s.get! (pos + 0)).toNat := by rw [hb]; exact ha
  have one : ∀ d, d < 1 → 128 ≤ (s.get! (pos + d)).toNat := fun d hd => by obtain rfl : d = 0 := by omega
                                                                           exact h0
  simp only [Utf8.decode, hb, hn, if_false]
  by_cases c1 : ((s[pos]'h).toNat / 32 == 6 && (decide (pos + 1 < s.size) && (s.get! (pos + 1)).toNat / 64 == 2)) = true
  · rw [if_pos c1]
    simp only [Bool.and_eq_true, decide_eq_true_eq, beq_iff_eq] at c1
    split
    · refine ⟨by omega, fun d hd => ?_⟩
      match d, hd with
      | 0, _ => exact h0
      | 1, _ => omega
    · exact ⟨by omega, one⟩
  · rw [if_neg c1]
    by_cases c2 : ((s[pos]'h).toNat / 16 == 14 && (decide (pos + 1 < s.size) && (s.get! (pos + 1)).toNat / 64 == 2) && (decide (pos + 2 < s.size) && (s.get! (pos + 2)).toNat / 64 == 2)) = true
    · rw [if_pos c2]
      simp only [Bool.and_eq_true, decide_eq_true_eq, beq_iff_eq] at c2
      split
      · refine ⟨by omega, fun d hd => ?_⟩
        match d, hd with
        | 0, _ => exact h0
        | 1, _ => omega
        | 2, _ => omega
      · exact ⟨by omega, one⟩
    · rw [if_neg c2]
      by_cases c3 : ((s[pos]'h).toNat / 8 == 30 && (decide (pos + 1 < s.size) && (s.get! (pos + 1)).toNat / 64 == 2) && (decide (pos + 2 < s.size) && (s.get! (pos + 2)).toNat / 64 == 2) && (decide (pos + 3 < s.size) && (s.get! (pos + 3)).toNat / 64 == 2)) = true
      · rw [if_pos c3]
        simp only [Bool.and_eq_true, decide_eq_true_eq, beq_iff_eq] at c3
        split
        · refine ⟨by omega, fun d hd => ?_⟩
          match d, hd with
          | 0, _ => exact h0
          | 1, _ => omega
          | 2, _ => omega
          | 3, _ => omega
        · exact ⟨by omega, one⟩
      · rw [if_neg c3]
        exact ⟨by omega, one⟩

theorem mem_join_len {p : Bs} {ps : List Bs} (h : p ∈ ps) : p.length ≤ (join ps).length := by
  cases ps with
  | nil => simp at h
  | cons q qs =>
    simp only [join, List.length_append]
    rcases List.mem_cons.1 h with rfl | h
    · omega
    · have : p.length ≤ (qs.flatMap (fun q => (46 : UInt8) :: q)).length := by
        induction qs with
        | nil => simp at h
        | cons a as ih =>
          simp only [List.flatMap_cons, List.length_append, List.length_cons]
          rcases List.mem_cons.1 h with rfl | h
          · omega
          · have := ih (by simp [h]) h; omega
      omega

theorem split_len {p l : Bs} (h : p ∈ split l) : p.length ≤ l.length := by
  have := mem_join_len h; rwa [join_split] at this

theorem split_count (l : Bs) : (split l).length ≤ l.length + 1 := by
  induction l with
  | nil => simp [split, splitFrom]
  | cons c r ih =>
    by_cases hc : c = 46
    · subst hc; rw [split_cons_dot]; simp; exact ih
    · obtain ⟨h, t, h1, h2⟩ := split_cons c r hc
      rw [h1] at ih; rw [h2]; simp at ih ⊢; omega

theorem split_pos (l : Bs) : 1 ≤ (split l).length := by
  have := split_ne l
  cases h : split l with
  | nil => exact absurd h this
  | cons => simp

theorem jn_snoc (xs : List Bs) (k : Nat) (h : k < xs.length) : jn (xs.take (k + 1)) = jstep (jn (xs.take k)) xs[k] := by
  unfold jn; rw [List.take_succ_eq_append_getElem h, List.foldl_append]; rfl

theorem jstep_len (t p : Bs) : (jstep t p).length ≤ t.length + p.length + 1 := by
  unfold jstep; split <;> simp <;> omega

theorem jn_len (xs : List Bs) (m : Nat) (h : ∀ p ∈ xs, p.length ≤ m) : (jn xs).length ≤ xs.length * (m + 1) := by
  have : ∀ t : Bs, (xs.foldl jstep t).length ≤ t.length + xs.length * (m + 1) := by
    induction xs with
    | nil => intro t; simp
    | cons a as ih =>
      intro t
      simp only [List.foldl_cons, List.length_cons]
      have h1 := ih (fun p hp => h p (by simp [hp])) (jstep t a)
      have h2 := jstep_len t a
      have h3 := h a (by simp)
      have h4 : (as.length + 1) * (m + 1) = as.length * (m + 1) + (m + 1) := Nat.succ_mul _ _
      omega
  simpa [jn] using this []

theorem join_snoc (xs : List Bs) (k : Nat) (h : k < xs.length) : join (xs.take (k + 1)) = (if k = 0 then [] else join (xs.take k) ++ [46]) ++ xs[k] := by
  cases xs with
  | nil => simp at h
  | cons a as =>
    cases k with
    | zero => simp [join]
    | succ k =>
      simp only [List.take_succ_cons, join]
      have hk : k < as.length := by simpa using h
      have e : as.take (k + 1) = as.take k ++ [as[k]] := List.take_succ_eq_append_getElem hk
      rw [if_neg (by omega), e, List.flatMap_append]
      simp [join]

/-- The name without its last part; the last part. -/
def parent (l : Bs) : Bs := join (split l).dropLast
def parentOf (l : Bs) : Bs := if vn l then parent l else []
def last (l : Bs) : Bs := (split l).getLast (split_ne l)
def lastOf (l : Bs) : Bs := if vn l then last l else []
def child (p s : Bs) : Bs := if p = [] then s else p ++ 46 :: s
def childOf (p s : Bs) : Bs := if vpk p && vp s && vn (child p s) then child p s else []
/-- A name and all above it. -/
def above (l : Bs) : List Bs := (List.range (split l).length).map (fun i => join ((split l).take (i + 1)))
def namesAbove (l : Bs) : List Bs := if vn l then above l else []
/-- Whether a text begins with another one. -/
def pre (q l : Bs) : Bool := decide (q.length ≤ l.length) && (l.take q.length == q)
def under (s p : Bs) : Bool := p.isEmpty || s == p || pre (p ++ [46]) s
def isUnder (s p : Bs) : Bool := vn s && vpk p && under s p

theorem join_take_le (xs : List Bs) (k : Nat) : (join (xs.take k)).length ≤ (join xs).length := by
  cases xs with
  | nil => simp [join]
  | cons a as =>
    cases k with
    | zero => simp [join]
    | succ k =>
      simp only [List.take_succ_cons, join, List.length_append]
      have : ∀ (ys : List Bs) (k : Nat), ((ys.take k).flatMap (fun q => (46 : UInt8) :: q)).length ≤ (ys.flatMap (fun q => (46 : UInt8) :: q)).length := by
        intro ys
        induction ys with
        | nil => intro k; simp
        | cons b bs ih =>
          intro k
          cases k with
          | zero => simp
          | succ k => simp only [List.take_succ_cons, List.flatMap_cons, List.length_append]; have := ih k; omega
      have := this as k
      omega

def joinParts (xs : List Bs) : Bs := if vps xs then join xs else []

theorem allvp_not {xs : List Bs} (h : vps xs = false) (hn : vn (join xs) = true) : 1 ≤ xs.length ∧ xs.all vp = false := by
  cases xs with
  | nil => revert hn; decide
  | cons a as =>
    refine ⟨by simp, ?_⟩
    rw [Bool.eq_false_iff]; intro ha
    rw [List.all_eq_true] at ha
    have e : split (join (a :: as)) = a :: as := split_join a as (fun q hq => vp_nodot (ha q hq))
    unfold vn at hn; rw [e, h] at hn; cases hn

theorem allvp_of {xs : List Bs} (h : vps xs = true) : xs.all vp = true := by
  rw [List.all_eq_true]; exact (vps_iff.1 h).2

theorem parent_eq {l : Bs} (h : vn l = true) : jn ((parts l).take ((parts l).length - 1)) = parent l := by
  rw [parts_of h, jn_eq (fun p hp => vp_ne ((vps_iff.1 h).2 p (List.mem_of_mem_take hp))), ← List.dropLast_eq_take]
  rfl

theorem parent_len (l : Bs) : (parent l).length ≤ l.length := by
  have h := join_take_le (split l) ((split l).length - 1)
  rw [← List.dropLast_eq_take, join_split] at h
  exact h

theorem last_eq (l : Bs) : ∀ (h : (split l).length - 1 < (split l).length), (split l)[(split l).length - 1] = last l := fun _ => (List.getLast_eq_getElem (split_ne l)).symm

theorem last_mem (l : Bs) : last l ∈ split l := List.getLast_mem (split_ne l)

theorem child_jn {p s : Bs} (hs : s ≠ []) : jn [p, s] = child p s := by
  unfold jn child
  cases p with
  | nil => simp [jstep]
  | cons a as => cases s with
    | nil => exact absurd rfl hs
    | cons b bs => simp [jstep]

theorem vpk_len {p : Bs} (h : vpk p = true) : p.length ≤ 11 := by
  unfold vpk at h
  rw [Bool.or_eq_true] at h
  rcases h with h | h
  · rw [List.isEmpty_iff] at h; subst h; decide
  · exact vn_len h

theorem child_len (p s : Bs) : (child p s).length ≤ p.length + s.length + 1 := by
  unfold child; split
  · omega
  · simp; omega

/-- A text if it is a name, nothing otherwise. -/
def nameOr (l : Bs) : Bs := if vn l then l else []
theorem nameOr_yes {l : Bs} (h : vn l = true) : nameOr l = l := by simp [nameOr, h]
theorem nameOr_no {l : Bs} (h : vn l = false) : nameOr l = [] := by simp [nameOr, h]

/-! ### Plain facts on names, for the laws. Nothing of the program stands here. -/
theorem getLast_vp {l : Bs} (h : vn l = true) : vp (last l) = true := (vps_iff.1 h).2 _ (last_mem l)

theorem child_join {ps : List Bs} (hn : ps ≠ []) (h : vps ps = true) : child (join ps.dropLast) (ps.getLast hn) = join ps := by
  obtain ⟨⟨h1, h3⟩, hv⟩ := vps_iff.1 h
  unfold child
  match ps, h1, h3, hv, hn with
  | [x], _, _, _, _ => simp [join]
  | [x, y], _, _, hv, _ =>
    have := vp_ne (hv x (by simp))
    simp [List.dropLast, join, this]
  | [x, y, z], _, _, hv, _ =>
    have := vp_ne (hv x (by simp))
    simp [List.dropLast, join, this]

theorem child_parent_last (l : Bs) (h : vn l = true) : child (parent l) (last l) = l :=
  (child_join (split_ne l) h).trans (join_split l)

theorem parent_vps {l : Bs} (h : vn l = true) (h0 : parent l ≠ []) : vps (split l).dropLast = true := by
  obtain ⟨⟨h1, h3⟩, hv⟩ := vps_iff.1 (show vps (split l) = true from h)
  refine vps_iff.2 ⟨⟨?_, by simp; omega⟩, fun p hp => hv p (List.dropLast_subset _ hp)⟩
  unfold parent at h0
  generalize (split l).dropLast = ps at *
  cases ps with
  | nil => exact absurd rfl h0
  | cons => simp

theorem parent_vn {l : Bs} (h : vn l = true) (h0 : parent l ≠ []) : vn (parent l) = true := vn_join (parent_vps h h0)

theorem split_append (l r : Bs) : split (l ++ 46 :: r) = split l ++ split r := by
  induction l with
  | nil => rw [List.nil_append, split_cons_dot]; rfl
  | cons c t ih =>
    by_cases hc : c = 46
    · subst hc; rw [List.cons_append, split_cons_dot, split_cons_dot, ih]; rfl
    · obtain ⟨a, b, h1, h2⟩ := split_cons c (t ++ 46 :: r) hc
      obtain ⟨a', b', h1', h2'⟩ := split_cons c t hc
      rw [List.cons_append, h2, h2']
      rw [ih, h1'] at h1
      simp only [List.cons_append] at h1
      obtain ⟨rfl, rfl⟩ := List.cons.inj h1
      rfl

theorem dot_end (l : Bs) : vn (l ++ [46]) = false := by
  have e : split (l ++ [46]) = split l ++ [[]] := split_append l []
  rw [Bool.eq_false_iff]; intro h
  have := (vps_iff.1 (show vps (split (l ++ [46])) = true from h)).2 [] (by rw [e]; simp)
  revert this; decide

theorem vpk_parent {l : Bs} (h : vn l = true) : vpk (parent l) = true := by
  by_cases h0 : parent l = []
  · rw [h0]; rfl
  · have := parent_vn h h0
    unfold vpk; rw [this, Bool.or_true]

theorem name_facts {l : Bs} (h : vn l = true) : (parent l ≠ [] → vn (parent l) = true) ∧ childOf (parent l) (last l) = l ∧ vn (l ++ [46]) = false ∧ vp (last l) = true := by
  refine ⟨parent_vn h, ?_, dot_end l, getLast_vp h⟩
  unfold childOf
  rw [child_parent_last l h, vpk_parent h, getLast_vp h, h]; rfl

/-- The dots of a text are one less than its pieces. -/
theorem dots_split (l : Bs) : (l.filter (· == 46)).length + 1 = (split l).length := by
  induction l with
  | nil => rfl
  | cons c t ih =>
    by_cases hc : c = 46
    · subst hc; rw [split_cons_dot]; simp [ih]
    · obtain ⟨a, b, h1, h2⟩ := split_cons c t hc
      rw [h1] at ih; rw [h2]
      simp [hc]; simpa using ih

theorem parts_parent {l : Bs} (h : vn l = true) : (parts (parent l)).length = (parts l).length - 1 := by
  rw [parts_of h]
  by_cases h0 : parent l = []
  · rw [h0]
    have : (split l).dropLast = [] := by
      obtain ⟨_, hv⟩ := vps_iff.1 (show vps (split l) = true from h)
      unfold parent at h0
      cases hd : (split l).dropLast with
      | nil => rfl
      | cons a as =>
        rw [hd] at h0
        have := vp_ne (hv a (List.dropLast_subset _ (by rw [hd]; simp)))
        simp [join, this] at h0
    have hl : (split l).dropLast.length = (split l).length - 1 := by simp
    rw [this] at hl
    rw [← hl]; decide
  · rw [parts_of (parent_vn h h0)]
    show (split (join (split l).dropLast)).length = _
    rw [split_of_vps (parent_vps h h0)]; simp

theorem under_parent {l : Bs} (h : vn l = true) : isUnder l (parent l) = true := by
  unfold isUnder
  rw [h, vpk_parent h]
  unfold under
  by_cases h0 : parent l = []
  · rw [h0]; rfl
  · have e := child_parent_last l h
    unfold child at e
    rw [if_neg h0] at e
    have : pre (parent l ++ [46]) l = true := by
      have e2 : l = (parent l ++ [46]) ++ last l := by rw [List.append_assoc]; exact e.symm
      unfold pre
      have hl : (parent l ++ [46]).length ≤ l.length := by
        have := congrArg List.length e2
        simp only [List.length_append] at this ⊢
        omega
      rw [decide_eq_true hl, Bool.true_and, beq_iff_eq]
      have h3 := congrArg (List.take (parent l ++ [46]).length) e2
      rw [h3, List.take_left']
      rfl
    rw [this]; simp

theorem parent_childOf {p s : Bs} (h : childOf p s ≠ []) : parentOf (childOf p s) = p ∧ lastOf (childOf p s) = s ∧ vn (childOf p s) = true := by
  unfold childOf at h ⊢
  by_cases hc : (vpk p && vp s && vn (child p s)) = true
  · rw [if_pos hc]
    simp only [Bool.and_eq_true] at hc
    obtain ⟨⟨hp, hs⟩, hn⟩ := hc
    have key : (split (child p s)).dropLast = (if p = [] then [] else split p) ∧ last (child p s) = s := by
      unfold child last
      by_cases h0 : p = []
      · subst h0
        simp only [if_true]
        have e : split s = [s] := split_nodot (vp_nodot hs)
        constructor
        · rw [e]; rfl
        · simp [e]
      · simp only [h0, if_false]
        have e : split (p ++ 46 :: s) = split p ++ [s] := by rw [split_append, split_nodot (vp_nodot hs)]
        constructor
        · rw [e]; simp
        · simp [e]
    refine ⟨?_, ?_, hn⟩
    · unfold parentOf parent
      rw [hn, key.1]
      by_cases h0 : p = []
      · subst h0; rfl
      · simp only [h0, if_false, if_true]; exact join_split p
    · unfold lastOf; rw [hn]; simpa using key.2
  · rw [if_neg hc] at h; exact absurd rfl h

theorem dots_step (l : Bs) (k : Nat) (h : k < l.length) : ((l.take (k + 1)).filter (· == 46)).length = ((l.take k).filter (· == 46)).length + (if l[k] = 46 then 1 else 0) := by
  rw [List.take_succ_eq_append_getElem h, List.filter_append, List.length_append]
  congr 1
  by_cases hc : l[k] = 46
  · rw [if_pos hc, hc]; rfl
  · rw [if_neg hc, List.filter_cons_of_neg (by simpa using hc)]; rfl

theorem dots_yes (l : Bs) (k : Nat) (h : k < l.length) (hc : l[k] = 46) : ((l.take (k + 1)).filter (· == 46)).length = ((l.take k).filter (· == 46)).length + 1 := by
  rw [dots_step l k h, if_pos hc]
theorem dots_no (l : Bs) (k : Nat) (h : k < l.length) (hc : ¬ l[k] = 46) : ((l.take (k + 1)).filter (· == 46)).length = ((l.take k).filter (· == 46)).length := by
  rw [dots_step l k h, if_neg hc]; rfl

theorem join_len_le (xs : List Bs) (m : Nat) (h : ∀ p ∈ xs, p.length ≤ m) : (join xs).length ≤ xs.length * (m + 1) := by
  cases xs with
  | nil => simp [join]
  | cons a as =>
    have ha := h a (by simp)
    have : ∀ ys : List Bs, (∀ p ∈ ys, p.length ≤ m) → (ys.flatMap (fun q => (46 : UInt8) :: q)).length ≤ ys.length * (m + 1) := by
      intro ys hy
      induction ys with
      | nil => simp
      | cons b bs ih =>
        have h1 := hy b (by simp)
        have h2 := ih (fun p hp => hy p (by simp [hp]))
        simp only [List.flatMap_cons, List.length_append, List.length_cons]
        have h4 : (bs.length + 1) * (m + 1) = bs.length * (m + 1) + (m + 1) := Nat.succ_mul _ _
        omega
    have h2 := this as (fun p hp => h p (by simp [hp]))
    simp only [join, List.length_append, List.length_cons]
    have h4 : (as.length + 1) * (m + 1) = as.length * (m + 1) + (m + 1) := Nat.succ_mul _ _
    omega

theorem joinParts_len (xs : List Bs) : (joinParts xs).length ≤ 11 := by
  unfold joinParts; split
  · rename_i h; exact join_len h
  · simp

/-! ### Plain facts on relative names and common packages. Nothing of the program stands here. -/
/-- The package k packages above p. -/
def upN : Bs → Nat → Bs
  | p, 0 => p
  | p, k + 1 => upN (parentOf p) k

theorem upN_snoc (p : Bs) (k : Nat) : upN p (k + 1) = parentOf (upN p k) := by
  induction k generalizing p with
  | zero => rfl
  | succ k ih => rw [upN, ih]; rfl

theorem parentOf_nil : parentOf [] = [] := by decide
theorem upN_nil (k : Nat) : upN [] k = [] := by
  induction k with
  | zero => rfl
  | succ k ih => rw [upN, parentOf_nil, ih]

theorem vpk_iff {p : Bs} : vpk p = true ↔ p = [] ∨ vn p = true := by
  unfold vpk; rw [Bool.or_eq_true, List.isEmpty_iff]

theorem vpk_parentOf {p : Bs} (h : vpk p = true) : vpk (parentOf p) = true := by
  rcases vpk_iff.1 h with rfl | h
  · decide
  · have : parentOf p = parent p := by simp [parentOf, h]
    rw [this]; exact vpk_parent h

theorem vpk_upN {p : Bs} (h : vpk p = true) (k : Nat) : vpk (upN p k) = true := by
  induction k generalizing p with
  | zero => exact h
  | succ k ih => exact ih (vpk_parentOf h)

theorem parentOf_of {p : Bs} (h : vn p = true) : parentOf p = parent p := by simp [parentOf, h]

/-- The name that a relative one means. -/
def resolved (p : Bs) (lv : Int) (s : Bs) : Bs :=
  if vpk p && vpk s && decide (0 ≤ lv) && decide (lv ≤ 4) then
    (if lv = 0 then s else if upN p (lv - 1).toNat = [] then [] else nameOr (jn [upN p (lv - 1).toNat, s]))
  else []

theorem jn_nil_right (b : Bs) : jn [b, []] = b := by simp [jn, jstep]

/-- How a name is told in a package: the level and the rest. -/
def relGo (s : Bs) : Nat → Bs → Int → Int × Bs
  | 0, _, _ => (0, [])
  | f + 1, p, lv => if p = [] then (0, []) else if under s p then (lv, s.drop (p.length + 1)) else relGo s f (parentOf p) (lv + 1)
def relName (p s : Bs) : Int × Bs := if vpk p && vn s then relGo s 4 p 1 else (0, [])

/-- What a package has to do with its fuel. -/
def fits (p : Bs) (f : Nat) : Prop := p = [] ∨ (vn p = true ∧ (split p).length ≤ f)
theorem fits_start {p : Bs} (h : vpk p = true) : fits p 3 := by
  rcases vpk_iff.1 h with rfl | h
  · exact .inl rfl
  · exact .inr ⟨h, (vps_iff.1 (show vps (split p) = true from h)).1.2⟩
theorem fits_step {p : Bs} {f : Nat} (h : fits p (f + 1)) (h0 : p ≠ []) : fits (parentOf p) f := by
  rcases h with h | ⟨h, hl⟩
  · exact absurd h h0
  · rw [parentOf_of h]
    by_cases hp : parent p = []
    · exact .inl hp
    · refine .inr ⟨parent_vn h hp, ?_⟩
      have : split (parent p) = (split p).dropLast := split_of_vps (parent_vps h hp)
      rw [this]; simp; omega
theorem fits_zero {p : Bs} (h : fits p 0) : p = [] := by
  rcases h with h | ⟨h, hl⟩
  · exact h
  · have := split_pos p; omega
theorem fits_vpk {p : Bs} {f : Nat} (h : fits p f) : vpk p = true := by
  rcases h with rfl | ⟨h, _⟩
  · rfl
  · exact vpk_iff.2 (.inr h)

theorem under_shape {s p : Bs} (h : under s p = true) (h0 : p ≠ []) : s = p ∨ ∃ r, s = p ++ 46 :: r := by
  unfold under at h
  rw [Bool.or_eq_true, Bool.or_eq_true] at h
  rcases h with (h | h) | h
  · rw [List.isEmpty_iff] at h; exact absurd h h0
  · exact .inl (by simpa using h)
  · right
    unfold pre at h
    rw [Bool.and_eq_true, decide_eq_true_eq, beq_iff_eq] at h
    refine ⟨s.drop (p ++ [46]).length, ?_⟩
    have := List.take_append_drop (p ++ [46]).length s
    rw [h.2] at this
    rw [← this]; simp

theorem trim_eq {s p : Bs} (h : under s p = true) (h0 : p ≠ []) : (if pre [46] (s.drop p.length) then (s.drop p.length).drop 1 else s.drop p.length) = s.drop (p.length + 1) := by
  rcases under_shape h h0 with rfl | ⟨r, rfl⟩
  · simp [pre]
  · have e : (p ++ 46 :: r).drop p.length = 46 :: r := by simp
    rw [e]
    have : pre [46] (46 :: r) = true := by simp [pre]
    rw [if_pos this]
    rw [← List.drop_drop, e]

/-- The last of the texts for which f holds, nothing if there is none. -/
def lastWith (f : Bs → Bool) (xs : List Bs) : Bs := xs.foldl (fun c n => if f n then n else c) []

theorem lastWith_snoc (f : Bs → Bool) (xs : List Bs) (k : Nat) (h : k < xs.length) : lastWith f (xs.take (k + 1)) = if f xs[k] then xs[k] else lastWith f (xs.take k) := by
  unfold lastWith
  rw [List.take_succ_eq_append_getElem h, List.foldl_append]; rfl

theorem lastWith_at (f : Bs → Bool) (xs : List Bs) (k : Nat) (h : k < xs.length) (hf : f xs[k] = true) (hn : ∀ j (hj : j < xs.length), k < j → f xs[j] = false) : lastWith f xs = xs[k] := by
  have : ∀ m, k < m → m ≤ xs.length → lastWith f (xs.take m) = xs[k] := by
    intro m
    induction m with
    | zero => intro h1; omega
    | succ m ih =>
      intro h1 h2
      rw [lastWith_snoc f xs m (by omega)]
      by_cases hm : m = k
      · subst hm; rw [if_pos hf]
      · rw [hn m (by omega) (by omega)]; exact ih (by omega) (by omega)
  have := this xs.length h (Nat.le_refl _)
  rwa [List.take_length] at this

theorem lastWith_none (f : Bs → Bool) (xs : List Bs) (hn : ∀ j (hj : j < xs.length), f xs[j] = false) : lastWith f xs = [] := by
  have : ∀ m, m ≤ xs.length → lastWith f (xs.take m) = [] := by
    intro m
    induction m with
    | zero => intro _; rfl
    | succ m ih => intro h2; rw [lastWith_snoc f xs m (by omega), hn m (by omega)]; exact ih (by omega)
  have := this xs.length (Nat.le_refl _)
  rwa [List.take_length] at this

def common (a b : Bs) : Bs := lastWith (fun n => isUnder b n) (namesAbove a)

theorem above_vn {l : Bs} (h : vn l = true) : ∀ n ∈ above l, vn n = true := by
  intro n hn
  unfold above at hn
  rw [List.mem_map] at hn
  obtain ⟨i, hi, rfl⟩ := hn
  rw [List.mem_range] at hi
  obtain ⟨⟨h1, h3⟩, hv⟩ := vps_iff.1 (show vps (split l) = true from h)
  exact vn_join (vps_iff.2 ⟨⟨by simp; omega, by simp; omega⟩, fun p hp => hv p (List.mem_of_mem_take hp)⟩)

theorem namesAbove_vn {l n : Bs} (hn : n ∈ namesAbove l) : vn n = true := by
  unfold namesAbove at hn
  split at hn
  · rename_i h; exact above_vn h n hn
  · simp at hn

theorem isUnder_of {s p : Bs} (hs : vn s = true) (hp : vn p = true) : isUnder s p = under s p := by
  unfold isUnder; rw [hs, vpk_iff.2 (.inr hp)]; rfl

theorem relGo_nil (s : Bs) (f : Nat) (lv : Int) : relGo s (f + 1) [] lv = (0, []) := by simp [relGo]
theorem relGo_yes {s p : Bs} (h0 : p ≠ []) (hu : under s p = true) (f : Nat) (lv : Int) : relGo s (f + 1) p lv = (lv, s.drop (p.length + 1)) := by simp [relGo, h0, hu]
theorem relGo_no {s p : Bs} (h0 : p ≠ []) (hu : under s p = false) (f : Nat) (lv : Int) : relGo s (f + 1) p lv = relGo s f (parentOf p) (lv + 1) := by simp [relGo, h0, hu]
theorem fits_pos {p : Bs} {f : Nat} (h : fits p f) (h0 : p ≠ []) : ∃ g, f = g + 1 := by
  cases f with
  | zero => exact absurd (fits_zero h) h0
  | succ g => exact ⟨g, rfl⟩
theorem fits_len {p : Bs} {f : Nat} (h : fits p f) : p.length ≤ 11 := vpk_len (fits_vpk h)
theorem under_len {s p : Bs} (h : under s p = true) (h0 : p ≠ []) : p.length ≤ s.length := by
  rcases under_shape h h0 with rfl | ⟨r, rfl⟩
  · exact Nat.le_refl _
  · simp
theorem isUnder_fits {s p : Bs} {f : Nat} (hs : vn s = true) (h : fits p f) : isUnder s p = under s p := by
  unfold isUnder; rw [hs, fits_vpk h]; rfl
theorem fits_vn {p : Bs} {f : Nat} (h : fits p f) (h0 : p ≠ []) : vn p = true := by
  rcases h with h | h
  · exact absurd h h0
  · exact h.1
theorem under_self {p : Bs} : under p p = true := by unfold under; simp
theorem under_ne {s p : Bs} (h : under s p = true) (h0 : p ≠ []) (hne : s ≠ p) : p.length + 1 ≤ s.length := by
  rcases under_shape h h0 with rfl | ⟨r, rfl⟩
  · exact absurd rfl hne
  · simp

/-! ### Plain facts on what is under what, on common packages, and on relative names, for the laws. Nothing of the program stands here. -/
theorem join_append {ps ts : List Bs} (h1 : ps ≠ []) (h2 : ts ≠ []) : join (ps ++ ts) = join ps ++ 46 :: join ts := by
  cases ps with
  | nil => exact absurd rfl h1
  | cons p ps => cases ts with
    | nil => exact absurd rfl h2
    | cons t ts => simp [join]

theorem split_inj {a b : Bs} (h : split a = split b) : a = b := by rw [← join_split a, h, join_split]

theorem under_iff {s n : Bs} (hs : vn s = true) (hn : vn n = true) : under s n = true ↔ split n <+: split s := by
  have hn0 := vn_ne hn
  constructor
  · intro h
    rcases under_shape h hn0 with rfl | ⟨r, rfl⟩
    · exact List.prefix_rfl
    · rw [split_append]; exact List.prefix_append _ _
  · rintro ⟨t, ht⟩
    by_cases h0 : t = []
    · subst h0
      rw [List.append_nil] at ht
      rw [split_inj ht]; exact under_self
    · have e : s = n ++ 46 :: join t := by
        rw [← join_split s, ← ht, join_append (split_ne n) h0, join_split]
      unfold under pre
      have h1 : (n ++ [46]).length ≤ s.length := by rw [e]; simp
      have h2 : s.take (n ++ [46]).length = n ++ [46] := by
        rw [e, show n ++ 46 :: join t = (n ++ [46]) ++ join t by simp, List.take_left']
        rfl
      rw [decide_eq_true h1, h2]; simp

theorem above_len (l : Bs) : (above l).length = (split l).length := by simp [above]
theorem above_get (l : Bs) (i : Nat) (h : i < (above l).length) : (above l)[i] = join ((split l).take (i + 1)) := by simp [above]

theorem take_vps {l : Bs} (h : vn l = true) (k : Nat) (h1 : 1 ≤ k) : vps ((split l).take k) = true := by
  obtain ⟨⟨h2, h3⟩, hv⟩ := vps_iff.1 (show vps (split l) = true from h)
  exact vps_iff.2 ⟨⟨by simp; omega, by simp; omega⟩, fun p hp => hv p (List.mem_of_mem_take hp)⟩

theorem split_above {l : Bs} (h : vn l = true) (i : Nat) (hi : i < (above l).length) : split (above l)[i] = (split l).take (i + 1) := by
  rw [above_get]; exact split_of_vps (take_vps h (i + 1) (by omega))

theorem mem_above {s n : Bs} (hs : vn s = true) (hn : vn n = true) : n ∈ above s ↔ under s n = true := by
  rw [under_iff hs hn]
  constructor
  · intro h
    obtain ⟨i, hi, rfl⟩ := List.getElem_of_mem h
    rw [split_above hs]; exact List.take_prefix _ _
  · intro h
    have hp := split_pos n
    have hl := h.length_le
    have e : split n = (split s).take (split n).length := (List.prefix_iff_eq_take.1 h)
    have hi : (split n).length - 1 < (above s).length := by rw [above_len]; omega
    have : n = (above s)[(split n).length - 1] := by
      apply split_inj
      rw [split_above hs, show (split n).length - 1 + 1 = (split n).length by omega]; exact e
    rw [this]; exact List.getElem_mem hi

theorem under_antisymm {s p : Bs} (hs : vn s = true) (hp : vn p = true) (h1 : under s p = true) (h2 : under p s = true) : s = p := by
  have a := (under_iff hs hp).1 h1
  have b := (under_iff hp hs).1 h2
  exact split_inj (b.eq_of_length (Nat.le_antisymm b.length_le a.length_le))

/-! ### The names above a name -/
theorem above_parent {l : Bs} (h : vn l = true) (i : Nat) (hi : i < (above l).length) (h0 : 0 < i) : parentOf (above l)[i] = (above l)[i - 1] := by
  have hvn : vn (above l)[i] = true := above_vn h _ (List.getElem_mem hi)
  have hl := above_len l
  rw [parentOf_of hvn]
  unfold parent
  rw [split_above h, above_get, show i - 1 + 1 = i by omega]
  congr 1
  rw [List.dropLast_eq_take, List.length_take, List.take_take]
  congr 1
  omega

theorem above_parent0 {l : Bs} (h : vn l = true) (hi : 0 < (above l).length) : parentOf (above l)[0] = [] := by
  have hvn : vn (above l)[0] = true := above_vn h _ (List.getElem_mem hi)
  rw [parentOf_of hvn]
  unfold parent
  rw [split_above h]
  have hl := above_len l
  have : ((split l).take (0 + 1)).dropLast = [] := by
    apply List.eq_nil_of_length_eq_zero; simp; omega
  rw [this]; rfl

theorem above_last (l : Bs) (h : (above l).length - 1 < (above l).length) : (above l)[(above l).length - 1] = l := by
  rw [above_get, show (above l).length - 1 + 1 = (above l).length by omega, above_len, List.take_length, join_split]

theorem above_under {l : Bs} (h : vn l = true) (i : Nat) (hi : i < (above l).length) : isUnder l (above l)[i] = true := by
  have hvn : vn (above l)[i] = true := above_vn h _ (List.getElem_mem hi)
  rw [isUnder_of h hvn]
  exact (mem_above h hvn).1 (List.getElem_mem hi)

/-! ### Common packages -/
def lcp : List Bs → List Bs → Nat
  | x :: xs, y :: ys => if x = y then lcp xs ys + 1 else 0
  | _, _ => 0

theorem lcp_comm (xs ys : List Bs) : lcp xs ys = lcp ys xs := by
  induction xs generalizing ys with
  | nil => cases ys <;> rfl
  | cons x xs ih =>
    cases ys with
    | nil => rfl
    | cons y ys =>
      unfold lcp
      by_cases h : x = y
      · rw [if_pos h, if_pos h.symm, ih]
      · rw [if_neg h, if_neg (fun e => h e.symm)]

theorem lcp_le (xs ys : List Bs) : lcp xs ys ≤ xs.length := by
  induction xs generalizing ys with
  | nil => simp [lcp]
  | cons x xs ih =>
    cases ys with
    | nil => simp [lcp]
    | cons y ys => unfold lcp; split
                   · have := ih ys; simp; omega
                   · simp

theorem lcp_take (xs ys : List Bs) : xs.take (lcp xs ys) = ys.take (lcp xs ys) := by
  induction xs generalizing ys with
  | nil => simp [lcp]
  | cons x xs ih =>
    cases ys with
    | nil => simp [lcp]
    | cons y ys =>
      unfold lcp
      by_cases h : x = y
      · rw [if_pos h, h]; simp [ih ys]
      · rw [if_neg h]; simp

theorem lcp_iff (xs ys : List Bs) (k : Nat) (hk : k ≤ xs.length) : xs.take k <+: ys ↔ k ≤ lcp xs ys := by
  induction xs generalizing ys k with
  | nil => simp at hk; subst hk; simp
  | cons x xs ih =>
    cases k with
    | zero => simp
    | succ k =>
      cases ys with
      | nil => simp [lcp]
      | cons y ys =>
        rw [List.take_succ_cons, List.cons_prefix_cons]
        unfold lcp
        by_cases h : x = y
        · rw [if_pos h, ih ys k (by simpa using hk)]
          constructor
          · intro h'; omega
          · intro h'; exact ⟨h, by omega⟩
        · rw [if_neg h]
          constructor
          · intro h'; exact absurd h'.1 h
          · intro h'; omega

theorem common_eq {a b : Bs} (ha : vn a = true) (hb : vn b = true) : common a b = join ((split a).take (lcp (split a) (split b))) := by
  have hna : namesAbove a = above a := by simp [namesAbove, ha]
  have hl := above_len a
  have hle := lcp_le (split a) (split b)
  have key : ∀ j (hj : j < (above a).length), isUnder b (above a)[j] = decide (j + 1 ≤ lcp (split a) (split b)) := by
    intro j hj
    have hvn : vn (above a)[j] = true := above_vn ha _ (List.getElem_mem hj)
    rw [isUnder_of hb hvn, Bool.eq_iff_iff, under_iff hb hvn, split_above ha, decide_eq_true_iff]
    exact lcp_iff _ _ _ (by omega)
  unfold common
  rw [hna]
  by_cases h0 : lcp (split a) (split b) = 0
  · rw [h0, lastWith_none _ _ (fun j hj => by rw [key j hj, h0]; rfl)]
    rfl
  · have hi : lcp (split a) (split b) - 1 < (above a).length := by omega
    rw [lastWith_at (fun n => isUnder b n) (above a) (lcp (split a) (split b) - 1) hi (by rw [key _ hi]; simp; omega) (fun j hj h => by rw [key j hj]; simp; omega)]
    rw [above_get, show lcp (split a) (split b) - 1 + 1 = lcp (split a) (split b) by omega]

theorem common_comm {a b : Bs} (ha : vn a = true) (hb : vn b = true) : common a b = common b a := by
  rw [common_eq ha hb, common_eq hb ha, lcp_comm (split b) (split a), lcp_take]

theorem lastWith_len (f : Bs → Bool) (xs : List Bs) (m : Nat) (h : ∀ n ∈ xs, n.length ≤ m) : (lastWith f xs).length ≤ m := by
  unfold lastWith
  have : ∀ c : Bs, c.length ≤ m → (xs.foldl (fun c n => if f n then n else c) c).length ≤ m := by
    induction xs with
    | nil => intro c hc; exact hc
    | cons x xs ih =>
      intro c hc
      simp only [List.foldl_cons]
      apply ih (fun n hn => h n (by simp [hn]))
      split
      · exact h x (by simp)
      · exact hc
  exact this [] (by simp)

theorem common_len (a b : Bs) : (common a b).length ≤ 11 := lastWith_len _ _ 11 (fun n hn => vn_len (namesAbove_vn hn))

theorem common_under_left {a b : Bs} (ha : vn a = true) (hb : vn b = true) : isUnder a (common a b) = true := by
  rw [common_eq ha hb]
  by_cases h0 : lcp (split a) (split b) = 0
  · rw [h0]; unfold isUnder; rw [ha]; rfl
  · have hv := take_vps ha (lcp (split a) (split b)) (by omega)
    have hvn := vn_join hv
    rw [isUnder_of ha hvn, under_iff ha hvn, split_of_vps hv]
    exact List.take_prefix _ _

theorem common_under_right {a b : Bs} (ha : vn a = true) (hb : vn b = true) : isUnder b (common a b) = true := by
  rw [common_comm ha hb]; exact common_under_left hb ha

theorem common_longest {a b : Bs} (ha : vn a = true) {k : Nat} (h : k < (namesAbove a).length) (hu : isUnder b (namesAbove a)[k] = true) : (namesAbove a)[k].length ≤ (common a b).length := by
  have hb : vn b = true := by
    unfold isUnder at hu; rw [Bool.and_eq_true, Bool.and_eq_true] at hu; exact hu.1.1
  have hna : namesAbove a = above a := by simp [namesAbove, ha]
  simp only [hna] at h hu ⊢
  have hvn : vn (above a)[k] = true := above_vn ha _ (List.getElem_mem h)
  rw [isUnder_of hb hvn, under_iff hb hvn, split_above ha] at hu
  have hl := above_len a
  have hk := (lcp_iff _ _ _ (by omega)).1 hu
  rw [common_eq ha hb, above_get]
  have e : (split a).take (k + 1) = ((split a).take (lcp (split a) (split b))).take (k + 1) := by
    rw [List.take_take]; congr 1; omega
  rw [e]
  exact join_take_le _ _

theorem namesAbove_len (l : Bs) : (namesAbove l).length ≤ l.length + 1 := by
  cases h : vn l
  · simp [namesAbove, h]
  · have : namesAbove l = above l := by simp [namesAbove, h]
    rw [this, above_len]; exact split_count l

/-! ### Relative names -/
theorem vn_of_vpk {p : Bs} (h : vpk p = true) (h0 : p ≠ []) : vn p = true := by
  rcases vpk_iff.1 h with h | h
  · exact absurd h h0
  · exact h

theorem resolved_valid {p s : Bs} {lv : Int} (h : resolved p lv s ≠ []) : vpk p = true ∧ vpk s = true ∧ 0 ≤ lv ∧ lv ≤ 4 := by
  unfold resolved at h
  by_cases hc : (vpk p && vpk s && decide (0 ≤ lv) && decide (lv ≤ 4)) = true
  · simp only [Bool.and_eq_true, decide_eq_true_eq] at hc
    exact ⟨hc.1.1.1, hc.1.1.2, hc.1.2, hc.2⟩
  · rw [if_neg hc] at h; exact absurd rfl h

theorem resolved_zero {p s : Bs} (h : resolved p 0 s ≠ []) : resolved p 0 s = s := by
  obtain ⟨h1, h2, _, _⟩ := resolved_valid h
  unfold resolved; rw [h1, h2]; rfl

theorem resolved_pos {p s : Bs} {N : Nat} (h1 : vpk p = true) (h2 : vpk s = true) (hN : N ≤ 3) :
    resolved p ((N : Int) + 1) s = if upN p N = [] then [] else nameOr (jn [upN p N, s]) := by
  have e : ((N : Int) + 1 - 1).toNat = N := by omega
  unfold resolved
  rw [h1, h2, decide_eq_true (by omega : (0 : Int) ≤ (N : Int) + 1), decide_eq_true (by omega : (N : Int) + 1 ≤ 4), e]
  simp only [Bool.and_self, if_true]
  rw [if_neg (by omega)]

theorem nameOr_vn {l : Bs} (h : nameOr l ≠ []) : vn l = true ∧ nameOr l = l := by
  cases hv : vn l
  · exact absurd (nameOr_no hv) h
  · exact ⟨rfl, nameOr_yes hv⟩

/-- What a name that was resolved by at least one dot looks like. -/
theorem resolved_facts {p s : Bs} {N : Nat} (hN : N ≤ 3) (h : resolved p ((N : Int) + 1) s ≠ []) :
    vn (resolved p ((N : Int) + 1) s) = true ∧ resolved p 1 [] = p ∧ (∀ M, N = M + 1 → resolved (parentOf p) ((M : Int) + 1) s = resolved p ((N : Int) + 1) s) ∧
    (s ≠ [] → ∃ b, resolved p ((N : Int) + 1) s = b ++ s) := by
  obtain ⟨h1, h2, _, _⟩ := resolved_valid h
  have e := resolved_pos h1 h2 hN
  by_cases hu : upN p N = []
  · rw [e, if_pos hu] at h; exact absurd rfl h
  · rw [if_neg hu] at e
    rw [e] at h
    obtain ⟨hv, hj⟩ := nameOr_vn h
    have hp0 : p ≠ [] := by rintro rfl; exact hu (upN_nil N)
    refine ⟨by rw [e, hj]; exact hv, ?_, ?_, ?_⟩
    · have := resolved_pos (N := 0) h1 (by decide : vpk [] = true) (by omega)
      simp only [upN, if_neg hp0, jn_nil_right] at this
      rw [show ((0 : Nat) : Int) + 1 = 1 by omega] at this
      rw [this]; exact nameOr_yes (vn_of_vpk h1 hp0)
    · rintro M rfl
      rw [resolved_pos (vpk_parentOf h1) h2 (by omega), e]
      show (if upN p (M + 1) = [] then [] else nameOr (jn [upN p (M + 1), s])) = _
      rw [if_neg hu]
    · intro hs
      rw [e, hj, child_jn hs]
      unfold child
      rw [if_neg hu]
      exact ⟨upN p N ++ [46], by simp⟩

/-- RelativeName leads back, by the least level. -/
theorem relGo_facts (s : Bs) (hs : vn s = true) : ∀ (f : Nat) (p : Bs) (lv : Int), vpk p = true → 1 ≤ lv → (relGo s f p lv).1 ≠ 0 →
    ∃ k : Nat, k < f ∧ (relGo s f p lv).1 = lv + k ∧ upN p k ≠ [] ∧ under s (upN p k) = true ∧ (relGo s f p lv).2 = s.drop ((upN p k).length + 1) ∧ ∀ j, j < k → isUnder s (upN p j) = false := by
  intro f
  induction f with
  | zero => intro p lv _ _ h; exact absurd rfl h
  | succ f ih =>
    intro p lv hp hlv h
    by_cases h0 : p = []
    · subst h0; rw [relGo_nil] at h; exact absurd rfl h
    · cases hu : under s p
      · rw [relGo_no h0 hu] at h ⊢
        obtain ⟨k, hk, e1, e2, e3, e4, e5⟩ := ih (parentOf p) (lv + 1) (vpk_parentOf hp) (by omega) h
        refine ⟨k + 1, by omega, by rw [e1]; omega, e2, e3, e4, fun j hj => ?_⟩
        cases j with
        | zero => show isUnder s p = false
                  rw [isUnder_of hs (vn_of_vpk hp h0)]; exact hu
        | succ j => exact e5 j (by omega)
      · rw [relGo_yes h0 hu]
        exact ⟨0, by omega, by simp, h0, hu, rfl, fun j hj => absurd hj (by omega)⟩

theorem relName_facts {p s : Bs} (h : (relName p s).1 ≠ 0) : vpk p = true ∧ vn s = true ∧
    ∃ k : Nat, k ≤ 3 ∧ (relName p s).1 = (k : Int) + 1 ∧ (∀ j, j < k → isUnder s (upN p j) = false) ∧ resolved p ((k : Int) + 1) (relName p s).2 = s ∧ (relName p s).2.length ≤ s.length := by
  unfold relName at h ⊢
  by_cases hc : (vpk p && vn s) = true
  · rw [if_pos hc] at h ⊢
    rw [Bool.and_eq_true] at hc
    obtain ⟨hp, hs⟩ := hc
    obtain ⟨k, hk, e1, e2, e3, e4, e5⟩ := relGo_facts s hs 4 p 1 hp (by omega) h
    refine ⟨hp, hs, k, by omega, by rw [e1]; omega, e5, ?_, by rw [e4]; simp⟩
    rw [e4]
    have hun := vn_of_vpk (vpk_upN hp k) e2
    rcases under_shape e3 e2 with e | ⟨r, e⟩
    · have hd : s.drop ((upN p k).length + 1) = [] := List.drop_eq_nil_of_le (by rw [← e]; omega)
      rw [hd, resolved_pos hp (by decide) (by omega), if_neg e2, jn_nil_right, nameOr_yes hun]
      exact e.symm
    · have hd : s.drop ((upN p k).length + 1) = r := by
        have h1 : s.drop (upN p k).length = 46 :: r := by
          have := congrArg (List.drop (upN p k).length) e
          rw [this]; simp
        rw [← List.drop_drop, h1]; rfl
      have hsp : split s = split (upN p k) ++ split r := by
        have := congrArg split e
        rw [this]; exact split_append _ _
      have hsv := vps_iff.1 (show vps (split s) = true from hs)
      have hr : vn r = true := by
        refine vps_iff.2 ⟨⟨split_pos r, ?_⟩, fun q hq => hsv.2 q (by rw [hsp]; simp [hq])⟩
        have := hsv.1.2
        rw [hsp, List.length_append] at this
        omega
      rw [hd, resolved_pos hp (vpk_iff.2 (.inr hr)) (by omega), if_neg e2, child_jn (vn_ne hr)]
      have hc : child (upN p k) r = s := by
        unfold child; rw [if_neg e2]; exact e.symm
      rw [hc]; exact nameOr_yes hs
  · rw [if_neg hc] at h; exact absurd rfl h

theorem resolved_len (p s : Bs) (lv : Int) : (resolved p lv s).length ≤ 11 := by
  by_cases h : resolved p lv s = []
  · rw [h]; decide
  · obtain ⟨h1, h2, h3, h4⟩ := resolved_valid h
    by_cases h0 : lv = 0
    · subst h0; rw [resolved_zero h]; exact vpk_len h2
    · obtain ⟨N, hN, hN3⟩ : ∃ N : Nat, lv = (N : Int) + 1 ∧ N ≤ 3 := ⟨(lv - 1).toNat, by omega, by omega⟩
      subst hN
      exact vn_len (resolved_facts hN3 h).1
end Go.Proofs.Ytgecemngfpgcoaa.Nm
