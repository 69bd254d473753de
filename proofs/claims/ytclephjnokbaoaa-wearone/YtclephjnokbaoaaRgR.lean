/-
  Plain mathematics: which cell of a ring is the last, what a Put leaves whatever is cut, and what Puts without a cut leave; conditions: as each states.
-/
import Derived.Test.YtclephjnokbaoaaRgS
namespace Go.Proofs.Ytclephjnokbaoaa
set_option linter.unusedVariables false
set_option linter.unusedSimpArgs false

theorem look_below {S : Fs} {P : Pt} {m : Int} (hm : 0 < m) : ∀ k, (∀ s, s < k → Good (secL S P s) → seqN (secL S P s) < m) → (look S P k).seq < m
  | 0, _ => hm
  | k + 1, h => by
    by_cases h1 : Newer S P (look S P k) k
    · rw [look_yes h1]; exact h k (by omega) h1.1
    · rw [look_no h1]; exact look_below hm k fun s hs => h s (by omega)
theorem look_from {S : Fs} {P : Pt} {j : Nat} {h0 : Hd} (hj : look S P (j + 1) = h0) : ∀ d, (∀ s, j < s → s < j + 1 + d → Good (secL S P s) → seqN (secL S P s) < h0.seq) → look S P (j + 1 + d) = h0
  | 0, _ => hj
  | d + 1, h => by
    have ih := look_from hj d fun s h1 h2 => h s h1 (by omega)
    show look S P ((j + 1 + d) + 1) = h0
    rw [look_no (fun hn => ?_), ih]
    have h2 := hn.2
    rw [ih] at h2
    have := h (j + 1 + d) (by omega) (by omega) hn.1
    omega
/-- The last cell. -/
theorem hd_is {S : Fs} {P : Pt} (hc : 4 ≤ P.cnt) {j : Nat} (hj : j < 4) (hg : Good (secL S P j)) (ho : ∀ s, s < 4 → s ≠ j → Good (secL S P s) → seqN (secL S P s) < seqN (secL S P j)) :
    hdOf S P = ⟨j, seqN (secL S P j), loadL (secL S P j)⟩ := by
  rw [hd_yes hc]
  have hpos : 0 < seqN (secL S P j) := by have := hg.2.2.1; omega
  have h1 : (look S P j).seq < seqN (secL S P j) := look_below hpos j fun s hs => ho s (by omega) (by omega)
  have h2 : look S P (j + 1) = ⟨j, seqN (secL S P j), loadL (secL S P j)⟩ := look_yes ⟨hg, h1⟩
  have h3 := look_from h2 (3 - j) fun s ha hb => ho s (by omega) (by omega)
  rw [show j + 1 + (3 - j) = 4 by omega] at h3
  exact h3
/-- None is there. -/
theorem hd_none {S : Fs} {P : Pt} (ho : ∀ s, s < 4 → ¬ Good (secL S P s)) : hdOf S P = ⟨3, 0, []⟩ := by
  unfold hdOf
  split
  · have : ∀ k, k ≤ 4 → look S P k = ⟨3, 0, []⟩ := by
      intro k
      induction k with
      | zero => intro _; rfl
      | succ k ih => intro hk; rw [look_no (fun h => ho k (by omega) h.1)]; exact ih (by omega)
    exact this 4 (Nat.le_refl _)
  · rfl
/-- What a fill leaves, whatever is cut. -/
structure FilledR (S : Fs) (P : Pt) (s : Nat) (c : List Int) (e : Int) (S' : Fs) : Prop where
  err : e = 0 ∨ e = 4
  ok : S'.Ok
  few : Few S'
  wear : S'.wear.length = S.wear.length
  ops : S'.ops ≤ S.ops + 2
  by' : ∀ t, t < P.cnt → t ≠ s → secL S' P t = secL S P t
  done : e = 0 → secL S' P s = c
  cut : e = 4 → secL S' P s = c ∨ secL S' P s = secL S P s ∨ Torn (secL S' P s)
theorem work_filled {S : Fs} {P : Pt} (hS : S.Ok) (hfew : Few S) (hp : P.Ok S.wear.length) {s : Nat} (hs : s < P.cnt) (hbl : secL S P s = ffs) {n : Int} {zs : List Int} (hz : Byt zs) {e : Int} {S' : Fs} (h : work S ((P.fst + s) * 320) (cellL n zs) = (e, S')) :
    (e = 0 ∨ e = 4) ∧ S'.Ok ∧ Few S' ∧ S'.wear.length = S.wear.length ∧ S'.ops = S.ops + 1 ∧ (∀ t, t < P.cnt → t ≠ s → secL S' P t = secL S P t) ∧ (e = 0 → secL S' P s = cellL n zs) ∧ (e = 4 → secL S' P s = cellL n zs ∨ Torn (secL S' P s)) := by
  have hb := cell_byt n hz
  have hl := cell_len n zs
  have e1 : (work S ((P.fst + s) * 320) (cellL n zs)).1 = e := by rw [h]
  have e2 : (work S ((P.fst + s) * 320) (cellL n zs)).2 = S' := by rw [h]
  have k1 := work_ok hS ((P.fst + s) * 320) hb
  have k2 := few_work hfew ((P.fst + s) * 320) (cellL n zs)
  have k3 := work_wear S ((P.fst + s) * 320) (cellL n zs)
  have k4 := fun t (ht : t < P.cnt) => work_sec hS hp hs hb hl ht
  have k5 := work_how S ((P.fst + s) * 320) (cellL n zs)
  rw [e2] at k1 k2 k3
  simp only [e2] at k4
  rw [e1] at k5
  have k6 := k4 s hs
  rw [if_pos rfl, hbl] at k6
  have hff := byt_ffs
  refine ⟨?_, k1, k2, by rw [k3.1], k3.2, fun t ht hne => by rw [k4 t ht, if_neg hne], fun h0 => ?_, fun h4 => ?_⟩
  · rcases k5 with h | h
    · exact .inl h.1
    · exact .inr h.1
  · rcases k5 with h | h
    · rw [k6, h.2.1, mixS_none hff hb hl]
    · have := h.1; omega
  · rw [k6]
    exact whole_grows (put_whole _) hl (mixS_len _ _ _) hb (mixS_byt hff hb (nowM_byt hS)) (mixS_over hb (nowM_byt hS))
theorem fill_filled {S : Fs} {P : Pt} (hS : S.Ok) (hfew : Few S) (hp : P.Ok S.wear.length) (ho : S.off = false) {s : Nat} (hs : s < P.cnt) (hl : aBlank S P (s : Int) = true ∨ aLeft S P (s : Int) ≠ 0) (hold : Torn (secL S P s) ∨ Whole (secL S P s)) {n : Int} {zs : List Int} (hz : Byt zs) :
    FilledR S P s (cellL n zs) (fillS S P s (cellL n zs)).1 (fillS S P s (cellL n zs)).2 := by
  have hb := cell_byt n hz
  have hcl := cell_len n zs
  by_cases hbl : aBlank S P (s : Int) = true
  · rw [fill_blank hbl]
    have hff := (blank_is hS hp hs).1 hbl
    rw [prog_blank hS hp ho hs hff hb hcl]
    obtain ⟨h1, h2, h3, h4, h5, h6, h7, h8⟩ := work_filled (n := n) (zs := zs) (e := (work S ((P.fst + s) * 320) (cellL n zs)).1) (S' := (work S ((P.fst + s) * 320) (cellL n zs)).2) hS hfew hp hs hff hz rfl
    exact ⟨h1, h2, h3, h4, by omega, h6, h7, fun he => (h8 he).imp id .inr⟩
  · have hbl' : aBlank S P (s : Int) = false := by simpa using hbl
    have hleft := hl.resolve_left hbl
    have he := erase_is hp ho hs hleft
    have hwS := worn_ok hS (P.fst + s)
    have hwp : P.Ok (worn S (P.fst + s)).wear.length := by rw [worn_len]; exact hp
    have hef : Few (aErase S P (s : Int)).2 := few_aErase hfew P s
    have k1 := work_ok hwS ((P.fst + s) * 320) byt_ffs
    have k3 := work_wear (worn S (P.fst + s)) ((P.fst + s) * 320) ffs
    have k4 := fun t (ht : t < P.cnt) => work_sec hwS hwp hs byt_ffs ffs_len ht
    have k5 := work_how (worn S (P.fst + s)) ((P.fst + s) * 320) ffs
    have hsb := sec_byt hS P s
    rw [← he] at k1 k3 k5
    simp only [← he] at k4
    have k6 := k4 s hs
    rw [if_pos rfl] at k6
    have k7 : ∀ t, t < P.cnt → t ≠ s → secL (aErase S P (s : Int)).2 P t = secL S P t := fun t ht hne => by rw [k4 t ht, if_neg hne]; rfl
    have kw : (aErase S P (s : Int)).2.wear.length = S.wear.length := by rw [k3.1, worn_len]
    have ko : (aErase S P (s : Int)).2.ops = S.ops + 1 := k3.2
    rcases k5 with ⟨h0, hm, hoff⟩ | ⟨h0, hoff⟩
    · rw [fill_two hbl' h0]
      have hff : secL (aErase S P (s : Int)).2 P s = ffs := by rw [k6, hm]; exact mixS_none hsb byt_ffs ffs_len
      have hp' : P.Ok (aErase S P (s : Int)).2.wear.length := by rw [kw]; exact hp
      rw [prog_blank k1 hp' (by rw [hoff]; exact ho) hs hff hb hcl]
      obtain ⟨h1, h2, h3, h4, h5, h6, h7, h8⟩ := work_filled (n := n) (zs := zs) (e := (work (aErase S P (s : Int)).2 ((P.fst + s) * 320) (cellL n zs)).1) (S' := (work (aErase S P (s : Int)).2 ((P.fst + s) * 320) (cellL n zs)).2) k1 hef hp' hs hff hz rfl
      exact ⟨h1, h2, h3, by rw [h4, kw], by omega, fun t ht hne => by rw [h6 t ht hne, k7 t ht hne], h7, fun he => (h8 he).imp id .inr⟩
    · rw [fill_err hbl' (by omega)]
      refine ⟨.inr h0, k1, hef, kw, by omega, k7, fun h => by omega, fun _ => ?_⟩
      right
      have hg : Grows (secL S P s) (secL (aErase S P (s : Int)).2 P s) := by rw [k6]; exact mixS_up hsb (nowM_byt hwS)
      rcases hold with ht | hw
      · exact .inr (torn_grows ht hg)
      · have hlen := sec_len' hS hp hs
        refine whole_grows hw hlen ?_ hsb ?_ hg
        · rw [k6, mixS_len]
        · rw [k6]; exact mixS_byt hsb byt_ffs (nowM_byt hwS)
/-! ### A ring into which things were put, whatever was cut -/
/-- The last one is zs, of that seq, in sector j; each other one is torn, or older. -/
structure Kept (S : Fs) (P : Pt) (j : Nat) (seq : Int) (zs : List Int) : Prop where
  ok : S.Ok
  few : Few S
  pok : P.Ok S.wear.length
  four : 4 ≤ P.cnt
  j4 : j < 4
  seq' : Seq seq
  byt : Byt zs
  on : S.off = false
  last : secL S P j = cellL seq zs
  rest : ∀ s, s < 4 → s ≠ j → Torn (secL S P s) ∨ (Whole (secL S P s) ∧ seqN (secL S P s) < seq)
theorem Kept.hd {S : Fs} {P : Pt} {j : Nat} {seq : Int} {zs : List Int} (h : Kept S P j seq zs) : hdOf S P = ⟨j, seq, rawL zs 156⟩ := by
  have hs := h.last
  have e1 : seqN (secL S P j) = seq := by rw [hs]; exact seq_cell h.seq' _
  have e2 : loadL (secL S P j) = rawL zs 156 := by rw [hs]; exact load_cell _ _
  have := hd_is h.four h.j4 (by rw [hs]; exact good_cell h.seq' _) (fun s h4 hne hg => by
    rw [e1]
    rcases h.rest s h4 hne with ht | ht
    · exact absurd hg (torn_bad (sec_len' h.ok h.pok (by have := h.four; omega)) (sec_byt h.ok P s) ht)
    · exact ht.2)
  rw [e1, e2] at this
  exact this
theorem power_sec (S : Fs) (P : Pt) (s : Nat) : secL (power S) P s = secL S P s := rfl
theorem cutAt_sec (S : Fs) (k : Nat) (m : List Int) (P : Pt) (s : Nat) : secL (cutAt S k m) P s = secL S P s := rfl
theorem Kept.cut {S : Fs} {P : Pt} {j : Nat} {seq : Int} {zs : List Int} (h : Kept S P j seq zs) (k : Nat) {m : List Int} (hm : Byt m) (hl : m.length ≤ 1000000) : Kept (cutAt S k m) P j seq zs :=
  ⟨cutAt_ok h.ok k hm hl, h.few, h.pok, h.four, h.j4, h.seq', h.byt, h.on, h.last, h.rest⟩
theorem left_pos {S : Fs} {P : Pt} (hfew : Few S) (hops : S.ops < P.bud) {s : Nat} (hs : s < P.cnt) : aLeft S P (s : Int) ≠ 0 := by
  unfold aLeft
  rw [if_pos ⟨by omega, by omega⟩]
  have := wear_few hfew ((P.fst : Int) + (s : Int))
  omega
/-- A Put, whatever is cut, and power behind it. -/
theorem Kept.put {S : Fs} {P : Pt} {j : Nat} {seq : Int} {zs : List Int} (h : Kept S P j seq zs) (hops : S.ops < P.bud) (hseq : seq ≤ 1000000) {ys : List Int} (hy : Byt ys) (hl : ys.length ≤ 156) :
    ((putR S P ys).1 = 0 ∨ (putR S P ys).1 = 4) ∧ (putR S P ys).2.ops ≤ S.ops + 2 ∧ (putR S P ys).2.wear.length = S.wear.length ∧ (putR S P ys).2.Ok ∧ Few (putR S P ys).2 ∧
      (Kept (power (putR S P ys).2) P ((j + 1) % 4) (seq + 1) ys ∨ ((putR S P ys).1 = 4 ∧ Kept (power (putR S P ys).2) P j seq zs)) := by
  have hhd := h.hd
  have hj4 := h.j4
  have h4 := h.four
  have hs1 := h.seq'.1
  have hsq : Seq (seq + 1) := ⟨by omega, by omega⟩
  have hn : (hdOf S P).next = (j + 1) % 4 := by rw [hhd]; rfl
  have ht : (j + 1) % 4 < P.cnt := by omega
  have hleft : aLeft S P (((j + 1) % 4 : Nat) : Int) ≠ 0 := left_pos h.few hops ht
  have hmay : MayP S P := ⟨by rw [hn]; exact .inr hleft, by rw [hhd]; exact hsq⟩
  rw [put_does h4 hl hmay, hn, hhd]
  have hold : Torn (secL S P ((j + 1) % 4)) ∨ Whole (secL S P ((j + 1) % 4)) := (h.rest _ (by omega) (by omega)).imp id (fun k => k.1)
  have hF := fill_filled (n := seq + 1) h.ok h.few h.pok h.on ht (.inr hleft) hold hy
  simp only [] at hF ⊢
  generalize fillS S P ((j + 1) % 4) (cellL (seq + 1) ys) = r at *
  obtain ⟨e, S'⟩ := r
  simp only [] at hF ⊢
  have hpok : P.Ok (power S').wear.length := by show P.Ok S'.wear.length; rw [hF.wear]; exact h.pok
  have hone : secL (power S') P j = secL S P j := hF.by' j (by omega) (by omega)
  have hoth : ∀ s, s < 4 → s ≠ j → s ≠ (j + 1) % 4 → secL (power S') P s = secL S P s := fun s h1 _ h3 => hF.by' s (by omega) h3
  have hnew : secL S' P ((j + 1) % 4) = cellL (seq + 1) ys → Kept (power S') P ((j + 1) % 4) (seq + 1) ys := fun hc =>
    ⟨power_ok hF.ok, few_power hF.few, hpok, h4, by omega, hsq, hy, rfl, hc, fun s h1 h2 => by
      by_cases e : s = j
      · subst e
        rw [hone, h.last]
        exact .inr ⟨put_whole _, by rw [seq_cell h.seq']; omega⟩
      · rw [hoth s h1 e h2]
        exact (h.rest s h1 e).imp id fun k => ⟨k.1, by omega⟩⟩
  refine ⟨hF.err, hF.ops, hF.wear, hF.ok, hF.few, ?_⟩
  rcases hF.err with rfl | rfl
  · exact .inl (hnew (hF.done rfl))
  · rcases hF.cut rfl with hc | hc
    · exact .inl (hnew hc)
    · refine .inr ⟨rfl, power_ok hF.ok, few_power hF.few, hpok, h4, hj4, h.seq', h.byt, rfl, hone.trans h.last, fun s h1 h2 => ?_⟩
      by_cases e : s = (j + 1) % 4
      · subst e
        rcases hc with hc | hc
        · rw [power_sec, hc]; exact h.rest _ h1 h2
        · exact .inl hc
      · rw [hoth s h1 h2 e]; exact h.rest s h1 h2
end Go.Proofs.Ytclephjnokbaoaa
