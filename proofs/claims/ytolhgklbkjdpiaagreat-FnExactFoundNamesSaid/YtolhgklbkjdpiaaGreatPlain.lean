/- Plain facts on names: lists of bytes, their parts and joins. Nothing of the program stands here. -/
import Derived.Laws.RangeAny
import Derived.Laws.RangeString
set_option linter.unusedVariables false
set_option linter.unusedSimpArgs false
namespace Go.Proofs.YtolhgklbkjdpiaaGreat.Nm


abbrev Bs := List UInt8

/-- A letter from a to z. -/
def lower (c : UInt8) : Bool := decide (97 ≤ c.toNat) && decide (c.toNat ≤ 122)
/-- A part of a name. -/
def vp (l : Bs) : Bool := decide (1 ≤ l.length) && decide (l.length ≤ 3) && l.all lower

/-- The pieces between dots: what is done, what is under way, what is left. -/
def splitFrom : List Bs → Bs → Bs → List Bs
  | acc, cur, [] => acc ++ [cur]
  | acc, cur, c :: r => if c = 46 then splitFrom (acc ++ [cur]) [] r else splitFrom acc (cur ++ [c]) r
def split (l : Bs) : List Bs := splitFrom [] [] l

def vps (ps : List Bs) : Bool := decide (1 ≤ ps.length) && decide (ps.length ≤ 3) && ps.all vp
def vn (l : Bs) : Bool := vps (split l)
def parts (l : Bs) : List Bs := if vn l then split l else []
def vpk (l : Bs) : Bool := l.isEmpty || vn l

/-- Pieces with dots between them. -/
def join : List Bs → Bs
  | [] => []
  | p :: ps => p ++ ps.flatMap (fun q => 46 :: q)
/-- What joinWithDots does with one more piece. -/
def jstep (t p : Bs) : Bs := if !t.isEmpty && !p.isEmpty then t ++ [46] ++ p else t ++ p
def jn (ps : List Bs) : Bs := ps.foldl jstep []

theorem splitFrom_eq (acc : List Bs) (cur l : Bs) : splitFrom acc cur l = acc ++ splitFrom [] cur l := by
  induction l generalizing acc cur with
  | nil => simp [splitFrom]
  | cons c r ih =>
    simp only [splitFrom]
    split
    · rw [ih (acc ++ [cur]), ih ([] ++ [cur])]; simp
    · rw [ih]

theorem split_cons_dot (r : Bs) : split (46 :: r) = [] :: split r := by
  simp [split, splitFrom]; rw [splitFrom_eq]; rfl

theorem splitFrom_cur (cur l : Bs) : ∃ h t, split l = h :: t ∧ splitFrom [] cur l = (cur ++ h) :: t := by
  induction l generalizing cur with
  | nil => exact ⟨[], [], rfl, by simp [splitFrom]⟩
  | cons c r ih =>
    by_cases hc : c = 46
    · subst hc
      refine ⟨[], split r, split_cons_dot r, ?_⟩
      simp [splitFrom]; rw [splitFrom_eq]; rfl
    · obtain ⟨h, t, h1, h2⟩ := ih (cur ++ [c])
      obtain ⟨h', t', h1', h2'⟩ := ih [c]
      have e : split (c :: r) = splitFrom [] [c] r := by simp [split, splitFrom, hc]
      rw [h1] at h1'
      obtain ⟨rfl, rfl⟩ := List.cons.inj h1'
      refine ⟨c :: h, t, by rw [e, h2']; rfl, ?_⟩
      simp [splitFrom, hc, h2]

theorem split_cons (c : UInt8) (r : Bs) (hc : c ≠ 46) : ∃ h t, split r = h :: t ∧ split (c :: r) = (c :: h) :: t := by
  obtain ⟨h, t, h1, h2⟩ := splitFrom_cur [c] r
  exact ⟨h, t, h1, by simpa [split, splitFrom, hc] using h2⟩

theorem split_ne (l : Bs) : split l ≠ [] := by
  obtain ⟨h, t, h1, _⟩ := splitFrom_cur [] l
  simp [h1]

theorem join_split (l : Bs) : join (split l) = l := by
  induction l with
  | nil => rfl
  | cons c r ih =>
    by_cases hc : c = 46
    · subst hc
      rw [split_cons_dot]
      obtain ⟨h, t, h1, _⟩ := splitFrom_cur [] r
      rw [h1] at ih ⊢
      simp only [join, List.flatMap_cons, List.nil_append] at ih ⊢
      simp [ih]
    · obtain ⟨h, t, h1, h2⟩ := split_cons c r hc
      rw [h1] at ih
      rw [h2]
      simp only [join] at ih ⊢
      simp [ih]

theorem split_nodot {q : Bs} (h : (46 : UInt8) ∉ q) : split q = [q] := by
  induction q with
  | nil => rfl
  | cons c r ih =>
    have hc : c ≠ 46 := fun e => h (by simp [e])
    obtain ⟨a, b, h1, h2⟩ := split_cons c r hc
    rw [ih (fun hx => h (by simp [hx]))] at h1
    obtain ⟨rfl, rfl⟩ := List.cons.inj h1
    exact h2

theorem split_app {q : Bs} (r : Bs) (h : (46 : UInt8) ∉ q) : split (q ++ 46 :: r) = q :: split r := by
  induction q with
  | nil => exact split_cons_dot r
  | cons c t ih =>
    have hc : c ≠ 46 := fun e => h (by simp [e])
    obtain ⟨a, b, h1, h2⟩ := split_cons c (t ++ 46 :: r) hc
    rw [ih (fun hx => h (by simp [hx]))] at h1
    obtain ⟨rfl, rfl⟩ := List.cons.inj h1
    exact h2

theorem join_cons (p q : Bs) (qs : List Bs) : join (p :: q :: qs) = p ++ 46 :: join (q :: qs) := by simp [join]

theorem split_join (p : Bs) (ps : List Bs) (h : ∀ q ∈ p :: ps, (46 : UInt8) ∉ q) : split (join (p :: ps)) = p :: ps := by
  induction ps generalizing p with
  | nil => simpa [join] using split_nodot (h p (by simp))
  | cons q qs ih => rw [join_cons, split_app _ (h p (by simp)), ih q (fun x hx => h x (by simp at hx ⊢; exact .inr hx))]

theorem vp_nodot {l : Bs} (h : vp l = true) : (46 : UInt8) ∉ l := by
  intro hm
  simp only [vp, Bool.and_eq_true, List.all_eq_true] at h
  have := h.2 46 hm
  revert this; decide

theorem vp_ne {l : Bs} (h : vp l = true) : l ≠ [] := by
  rintro rfl; simp [vp] at h

theorem vp_len {l : Bs} (h : vp l = true) : 1 ≤ l.length ∧ l.length ≤ 3 := by
  simp only [vp, Bool.and_eq_true, decide_eq_true_eq] at h; exact h.1

theorem vps_iff {ps : List Bs} : vps ps = true ↔ (1 ≤ ps.length ∧ ps.length ≤ 3) ∧ ∀ p ∈ ps, vp p = true := by
  simp [vps, and_assoc]

theorem split_of_vps {ps : List Bs} (h : vps ps = true) : split (join ps) = ps := by
  obtain ⟨⟨h1, h2⟩, h3⟩ := vps_iff.1 h
  cases ps with
  | nil => simp at h1
  | cons p ps => exact split_join p ps (fun q hq => vp_nodot (h3 q hq))

theorem vn_join {ps : List Bs} (h : vps ps = true) : vn (join ps) = true := by
  unfold vn; rw [split_of_vps h]; exact h

theorem join_len {ps : List Bs} (h : vps ps = true) : (join ps).length ≤ 11 := by
  obtain ⟨⟨h1, h2⟩, h3⟩ := vps_iff.1 h
  match ps, h1, h2, h3 with
  | [a], _, _, h3 => have := vp_len (h3 a (by simp)); simp [join]; omega
  | [a, b], _, _, h3 => have := vp_len (h3 a (by simp)); have := vp_len (h3 b (by simp)); simp [join]; omega
  | [a, b, c], _, _, h3 => have := vp_len (h3 a (by simp)); have := vp_len (h3 b (by simp)); have := vp_len (h3 c (by simp)); simp [join]; omega

theorem vn_len {l : Bs} (h : vn l = true) : l.length ≤ 11 := by
  have := join_len (ps := split l) h
  rwa [join_split] at this

theorem vn_ne {l : Bs} (h : vn l = true) : l ≠ [] := by
  rintro rfl; revert h; decide

theorem parts_vps {l : Bs} (h : parts l ≠ []) : vps (parts l) = true ∧ parts l = split l ∧ vn l = true := by
  unfold parts at h ⊢
  split
  · rename_i h'; exact ⟨h', rfl, h'⟩
  · rename_i h'; simp [h'] at h

theorem parts_of {l : Bs} (h : vn l = true) : parts l = split l := by simp [parts, h]
theorem parts_not {l : Bs} (h : vn l = false) : parts l = [] := by simp [parts, h]
theorem parts_pos (l : Bs) : decide (0 < (parts l).length) = vn l := by
  unfold parts
  split
  · rename_i h; have := split_ne l; cases hs : split l with
    | nil => exact absurd hs this
    | cons a b => simp [h]
  · rename_i h; simp at h; simp [h]

theorem jn_eq {ps : List Bs} (h : ∀ p ∈ ps, p ≠ []) : jn ps = join ps := by
  unfold jn
  cases ps with
  | nil => rfl
  | cons p ps =>
    have hp := h p (by simp)
    have : ∀ (t : Bs), t ≠ [] → (∀ q ∈ ps, q ≠ []) → ps.foldl jstep t = t ++ ps.flatMap (fun q => 46 :: q) := by
      intro t ht hq
      induction ps generalizing t with
      | nil => simp
      | cons q qs ih =>
        have hq1 := hq q (by simp)
        have e : jstep t q = t ++ 46 :: q := by
          cases t with
          | nil => exact absurd rfl ht
          | cons => cases q with
            | nil => exact absurd rfl hq1
            | cons => simp [jstep]
        simp only [List.foldl_cons, e]
        rw [ih (fun p hp => h p (by simp at hp ⊢; rcases hp with hp | hp; exact .inl hp; exact .inr (.inr hp))) _ (by simp) (fun x hx => hq x (by simp [hx]))]
        simp
    simp only [List.foldl_cons, join]
    have e0 : jstep [] p = p := by simp [jstep]
    rw [e0]
    exact this p hp (fun q hq => h q (by simp [hq]))

/-! ### One step of the splitting: from place f on the piece under way, at place k -/
theorem sf_dot (l : Bs) (acc : List Bs) (f k : Nat) (hk : k < l.length) (hc : l[k] = 46) :
    splitFrom acc ((l.drop f).take (k - f)) (l.drop k) = splitFrom (acc ++ [(l.drop f).take (k - f)]) ((l.drop (k + 1)).take (k + 1 - (k + 1))) (l.drop (k + 1)) := by
  rw [List.drop_eq_getElem_cons hk]; simp [splitFrom, hc]

theorem sf_else (l : Bs) (acc : List Bs) (f k : Nat) (hf : f ≤ k) (hk : k < l.length) (hc : l[k] ≠ 46) :
    splitFrom acc ((l.drop f).take (k - f)) (l.drop k) = splitFrom acc ((l.drop f).take (k + 1 - f)) (l.drop (k + 1)) := by
  rw [List.drop_eq_getElem_cons hk]
  have e : (l.drop f).take (k + 1 - f) = (l.drop f).take (k - f) ++ [l[k]] := by
    have h1 : k + 1 - f = (k - f) + 1 := by omega
    rw [h1, List.take_succ_eq_append_getElem (by simp; omega)]
    congr 2
    simp; congr 1; omega
  rw [e]; simp [splitFrom, hc]

theorem sf_end (l : Bs) (acc : List Bs) (f k : Nat) (hk : l.length ≤ k) :
    splitFrom acc ((l.drop f).take (k - f)) (l.drop k) = acc ++ [l.drop f] := by
  rw [List.drop_eq_nil_of_le hk, List.take_of_length_le (by simp; omega)]; rfl

theorem sf_start (l : Bs) : splitFrom [] ((l.drop 0).take (0 - 0)) (l.drop 0) = split l := by simp [split]

theorem sf_skip (l : Bs) (acc : List Bs) (f k n : Nat) (hf : f ≤ k) (hk : k + n ≤ l.length) (hc : ∀ j, k ≤ j → (h : j < l.length) → j < k + n → l[j] ≠ 46) :
    splitFrom acc ((l.drop f).take (k - f)) (l.drop k) = splitFrom acc ((l.drop f).take (k + n - f)) (l.drop (k + n)) := by
  induction n with
  | zero => rfl
  | succ n ih =>
    rw [ih (by omega) (fun j h1 h2 h3 => hc j h1 h2 (by omega))]
    exact sf_else l acc f (k + n) (by omega) (by omega) (hc (k + n) (by omega) (by omega) (by omega))

/-- A rune that is no single byte is made of bytes from 128 on, all of them in the text. -/
theorem decode_skip (s : ByteArray) (pos : Nat) (h : pos < s.size) (ha : 128 ≤ (s[pos]'h).toNat) :
    pos + (Utf8.decode s pos).2 ≤ s.size ∧ ∀ d, d < (Utf8.decode s pos).2 → 128 ≤ (s.get! (pos + d)).toNat := by
  have hn : ¬ (s[pos]'h).toNat < 128 := by omega
  have hb := get_at s pos h
  have h0 : 128 ≤ (s.get! (pos + 0)).toNat := by rw [hb]; exact ha
  have one : ∀ d, d < 1 → 128 ≤ (s.get! (pos + d)).toNat := fun d hd => by obtain rfl : d = 0 := by omega
                                                                           exact h0
  simp only [Utf8.decode, hb, hn, if_false]
  by_cases c1 : ((s[pos]'h).toNat / 32 == 6 && (decide (pos + 1 < s.size) && (s.get! (pos + 1)).toNat / 64 == 2)) = true
  · rw [if_pos c1]
    simp only [Bool.and_eq_true, decide_eq_true_eq, beq_iff_eq] at c1
    split
    · refine ⟨by omega, fun d hd => ?_⟩
      match d, hd with
      | 0, _ => exact h0
      | 1, _ => omega
    · exact ⟨by omega, one⟩
  · rw [if_neg c1]
    by_cases c2 : ((s[pos]'h).toNat / 16 == 14 && (decide (pos + 1 < s.size) && (s.get! (pos + 1)).toNat / 64 == 2) && (decide (pos + 2 < s.size) && (s.get! (pos + 2)).toNat / 64 == 2)) = true
    · rw [if_pos c2]
      simp only [Bool.and_eq_true, decide_eq_true_eq, beq_iff_eq] at c2
      split
      · refine ⟨by omega, fun d hd => ?_⟩
        match d, hd with
        | 0, _ => exact h0
        | 1, _ => omega
        | 2, _ => omega
      · exact ⟨by omega, one⟩
    · rw [if_neg c2]
      by_cases c3 : ((s[pos]'h).toNat / 8 == 30 && (decide (pos + 1 < s.size) && (s.get! (pos + 1)).toNat / 64 == 2) && (decide (pos + 2 < s.size) && (s.get! (pos + 2)).toNat / 64 == 2) && (decide (pos + 3 < s.size) && (s.get! (pos + 3)).toNat / 64 == 2)) = true
      · rw [if_pos c3]
        simp only [Bool.and_eq_true, decide_eq_true_eq, beq_iff_eq] at c3
        split
        · refine ⟨by omega, fun d hd => ?_⟩
          match d, hd with
          | 0, _ => exact h0
          | 1, _ => omega
          | 2, _ => omega
          | 3, _ => omega
        · exact ⟨by omega, one⟩
      · rw [if_neg c3]
        exact ⟨by omega, one⟩

theorem mem_join_len {p : Bs} {ps : List Bs} (h : p ∈ ps) : p.length ≤ (join ps).length := by
  cases ps with
  | nil => simp at h
  | cons q qs =>
    simp only [join, List.length_append]
    rcases List.mem_cons.1 h with rfl | h
    · omega
    · have : p.length ≤ (qs.flatMap (fun q => (46 : UInt8) :: q)).length := by
        induction qs with
        | nil => simp at h
        | cons a as ih =>
          simp only [List.flatMap_cons, List.length_append, List.length_cons]
          rcases List.mem_cons.1 h with rfl | h
          · omega
          · have := ih (by simp [h]) h; omega
      omega

theorem split_len {p l : Bs} (h : p ∈ split l) : p.length ≤ l.length := by
  have := mem_join_len h; rwa [join_split] at this

theorem split_count (l : Bs) : (split l).length ≤ l.length + 1 := by
  induction l with
  | nil => simp [split, splitFrom]
  | cons c r ih =>
    by_cases hc : c = 46
    · subst hc; rw [split_cons_dot]; simp; exact ih
    · obtain ⟨h, t, h1, h2⟩ := split_cons c r hc
      rw [h1] at ih; rw [h2]; simp at ih ⊢; omega

theorem split_pos (l : Bs) : 1 ≤ (split l).length := by
  have := split_ne l
  cases h : split l with
  | nil => exact absurd h this
  | cons => simp

theorem jn_snoc (xs : List Bs) (k : Nat) (h : k < xs.length) : jn (xs.take (k + 1)) = jstep (jn (xs.take k)) xs[k] := by
  unfold jn; rw [List.take_succ_eq_append_getElem h, List.foldl_append]; rfl

theorem jstep_len (t p : Bs) : (jstep t p).length ≤ t.length + p.length + 1 := by
  unfold jstep; split <;> simp <;> omega

theorem jn_len (xs : List Bs) (m : Nat) (h : ∀ p ∈ xs, p.length ≤ m) : (jn xs).length ≤ xs.length * (m + 1) := by
  have : ∀ t : Bs, (xs.foldl jstep t).length ≤ t.length + xs.length * (m + 1) := by
    induction xs with
    | nil => intro t; simp
    | cons a as ih =>
      intro t
      simp only [List.foldl_cons, List.length_cons]
      have h1 := ih (fun p hp => h p (by simp [hp])) (jstep t a)
      have h2 := jstep_len t a
      have h3 := h a (by simp)
      have h4 : (as.length + 1) * (m + 1) = as.length * (m + 1) + (m + 1) := Nat.succ_mul _ _
      omega
  simpa [jn] using this []

theorem join_snoc (xs : List Bs) (k : Nat) (h : k < xs.length) : join (xs.take (k + 1)) = (if k = 0 then [] else join (xs.take k) ++ [46]) ++ xs[k] := by
  cases xs with
  | nil => simp at h
  | cons a as =>
    cases k with
    | zero => simp [join]
    | succ k =>
      simp only [List.take_succ_cons, join]
      have hk : k < as.length := by simpa using h
      have e : as.take (k + 1) = as.take k ++ [as[k]] := List.take_succ_eq_append_getElem hk
      rw [if_neg (by omega), e, List.flatMap_append]
      simp [join]

/-- The name without its last part; the last part. -/
def parent (l : Bs) : Bs := join (split l).dropLast
def parentOf (l : Bs) : Bs := if vn l then parent l else []
def last (l : Bs) : Bs := (split l).getLast (split_ne l)
def lastOf (l : Bs) : Bs := if vn l then last l else []
def child (p s : Bs) : Bs := if p = [] then s else p ++ 46 :: s
def childOf (p s : Bs) : Bs := if vpk p && vp s && vn (child p s) then child p s else []
/-- A name and all above it. -/
def above (l : Bs) : List Bs := (List.range (split l).length).map (fun i => join ((split l).take (i + 1)))
def namesAbove (l : Bs) : List Bs := if vn l then above l else []
/-- Whether a text begins with another one. -/
def pre (q l : Bs) : Bool := decide (q.length ≤ l.length) && (l.take q.length == q)
def under (s p : Bs) : Bool := p.isEmpty || s == p || pre (p ++ [46]) s
def isUnder (s p : Bs) : Bool := vn s && vpk p && under s p

theorem join_take_le (xs : List Bs) (k : Nat) : (join (xs.take k)).length ≤ (join xs).length := by
  cases xs with
  | nil => simp [join]
  | cons a as =>
    cases k with
    | zero => simp [join]
    | succ k =>
      simp only [List.take_succ_cons, join, List.length_append]
      have : ∀ (ys : List Bs) (k : Nat), ((ys.take k).flatMap (fun q => (46 : UInt8) :: q)).length ≤ (ys.flatMap (fun q => (46 : UInt8) :: q)).length := by
        intro ys
        induction ys with
        | nil => intro k; simp
        | cons b bs ih =>
          intro k
          cases k with
          | zero => simp
          | succ k => simp only [List.take_succ_cons, List.flatMap_cons, List.length_append]; have := ih k; omega
      have := this as k
      omega

def joinParts (xs : List Bs) : Bs := if vps xs then join xs else []

theorem allvp_not {xs : List Bs} (h : vps xs = false) (hn : vn (join xs) = true) : 1 ≤ xs.length ∧ xs.all vp = false := by
  cases xs with
  | nil => revert hn; decide
  | cons a as =>
    refine ⟨by simp, ?_⟩
    rw [Bool.eq_false_iff]; intro ha
    rw [List.all_eq_true] at ha
    have e : split (join (a :: as)) = a :: as := split_join a as (fun q hq => vp_nodot (ha q hq))
    unfold vn at hn; rw [e, h] at hn; cases hn

theorem allvp_of {xs : List Bs} (h : vps xs = true) : xs.all vp = true := by
  rw [List.all_eq_true]; exact (vps_iff.1 h).2

theorem parent_eq {l : Bs} (h : vn l = true) : jn ((parts l).take ((parts l).length - 1)) = parent l := by
  rw [parts_of h, jn_eq (fun p hp => vp_ne ((vps_iff.1 h).2 p (List.mem_of_mem_take hp))), ← List.dropLast_eq_take]
  rfl

theorem parent_len (l : Bs) : (parent l).length ≤ l.length := by
  have h := join_take_le (split l) ((split l).length - 1)
  rw [← List.dropLast_eq_take, join_split] at h
  exact h

theorem last_eq (l : Bs) : ∀ (h : (split l).length - 1 < (split l).length), (split l)[(split l).length - 1] = last l := fun _ => (List.getLast_eq_getElem (split_ne l)).symm

theorem last_mem (l : Bs) : last l ∈ split l := List.getLast_mem (split_ne l)

theorem child_jn {p s : Bs} (hs : s ≠ []) : jn [p, s] = child p s := by
  unfold jn child
  cases p with
  | nil => simp [jstep]
  | cons a as => cases s with
    | nil => exact absurd rfl hs
    | cons b bs => simp [jstep]

theorem vpk_len {p : Bs} (h : vpk p = true) : p.length ≤ 11 := by
  unfold vpk at h
  rw [Bool.or_eq_true] at h
  rcases h with h | h
  · rw [List.isEmpty_iff] at h; subst h; decide
  · exact vn_len h

theorem child_len (p s : Bs) : (child p s).length ≤ p.length + s.length + 1 := by
  unfold child; split
  · omega
  · simp; omega

/-- A text if it is a name, nothing otherwise. -/
def nameOr (l : Bs) : Bs := if vn l then l else []
theorem nameOr_yes {l : Bs} (h : vn l = true) : nameOr l = l := by simp [nameOr, h]
theorem nameOr_no {l : Bs} (h : vn l = false) : nameOr l = [] := by simp [nameOr, h]

end Go.Proofs.YtolhgklbkjdpiaaGreat.Nm
