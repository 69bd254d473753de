/-
  Plain words, no program: a tenant's config and part, which configs may be, how many sectors each takes, where each lies, which error a row of configs has; conditions: none.
-/
import Derived.Test.YtljkngalnoepmaaNaPlain
import Derived.Laws.Rows
namespace Go.Proofs.Ytljkngalnoepmaa

/-- A config: its name, a key and a first image of so many bytes, four numbers. -/
structure Cf where
  name : ByteArray
  ka : Option Addr
  kl : Nat
  kc : Nat
  slot : Int
  budget : Int
  quota : Int
  rights : Int
  fa : Option Addr
  fl : Nat
  fc : Nat
def Cf.list (c : Cf) : List Value := [.string c.name, .slice c.ka c.kl c.kc, .int .i64 c.slot, .int .i64 c.budget, .int .i64 c.quota, .int .i64 c.rights, .slice c.fa c.fl c.fc]
def Cf.cells (c : Cf) : Array Value := #[.string c.name, .slice c.ka c.kl c.kc, .int .i64 c.slot, .int .i64 c.budget, .int .i64 c.quota, .int .i64 c.rights, .slice c.fa c.fl c.fc]
theorem cf_cells (c : Cf) : c.cells = c.list.toArray := rfl
def I64 (n : Int) : Prop := -9223372036854775808 ≤ n ∧ n ≤ 9223372036854775807
structure Cf.Ok (c : Cf) : Prop where
  name : c.name.size ≤ maxLen
  slot : I64 c.slot
  budget : I64 c.budget
  quota : I64 c.quota
  rights : I64 c.rights
/-- A part: rights, from which sector on, how many. -/
structure Cp where
  r : Int
  f : Int
  l : Int
def Cp.list (p : Cp) : List Value := [.int .i64 p.r, .int .i64 p.f, .int .i64 p.l]
def Cp.cells (p : Cp) : Array Value := #[.int .i64 p.r, .int .i64 p.f, .int .i64 p.l]
theorem cp_cells (p : Cp) : p.cells = p.list.toArray := rfl

def winB (n a b : Int) : Bool := decide (a ≤ n) && decide (n ≤ b)
theorem win_yes {n a b : Int} (h : a ≤ n) (h' : n ≤ b) : winB n a b = true := by simp [winB, h, h']
theorem win_lo {n a b : Int} (h : n < a) : winB n a b = false := by have : ¬ a ≤ n := by omega
                                                                    simp [winB, this]
theorem win_hi {n a b : Int} (h : b < n) : winB n a b = false := by have : ¬ n ≤ b := by omega
                                                                    simp [winB, this]
theorem win_true {n a b : Int} (h : winB n a b = true) : a ≤ n ∧ n ≤ b := by simpa [winB] using h
def rightB (c : Cf) : Bool := Nam.validL (Nam.all c.name) && (winB c.kl 1 64 && (winB c.slot 1 6 && (winB c.budget 0 1000 && (winB c.quota 1 c.slot && (winB c.rights 0 1023 && winB c.fl 1 (c.quota * 320))))))
def cutN (s : Int) : Int := if s < 0 then 0 else if 6 < s then 6 else s
def needN (c : Cf) : Int := 4 + 2 * cutN c.slot
theorem cut_in (s : Int) : 0 ≤ cutN s ∧ cutN s ≤ 6 := by unfold cutN; split <;> (try split) <;> omega
theorem need_in (c : Cf) : 4 ≤ needN c ∧ needN c ≤ 16 := by have := cut_in c.slot; unfold needN; omega
/-- How many sectors the first k take; their parts. -/
def sumN (cs : List Cf) : Int := (cs.map needN).sum
def layL : List Cf → Int → List Cp
  | [], _ => []
  | c :: cs, p => ⟨c.rights, p, needN c⟩ :: layL cs (p + needN c)
theorem sumN_nil : sumN [] = 0 := rfl
theorem sumN_snoc (cs : List Cf) (c : Cf) : sumN (cs ++ [c]) = sumN cs + needN c := by simp [sumN]
theorem sumN_in : ∀ cs : List Cf, 0 ≤ sumN cs ∧ sumN cs ≤ 16 * cs.length
  | [] => by simp [sumN]
  | c :: cs => by
    have h := sumN_in cs
    have h' := need_in c
    simp only [sumN, List.map_cons, List.sum_cons, List.length_cons] at h ⊢
    omega
theorem layL_snoc (c : Cf) : ∀ (cs : List Cf) (p : Int), layL (cs ++ [c]) p = layL cs p ++ [⟨c.rights, p + sumN cs, needN c⟩]
  | [], p => by simp [layL, sumN]
  | d :: cs, p => by
    simp only [List.cons_append, layL, layL_snoc c cs (p + needN d), sumN, List.map_cons, List.sum_cons]
    rw [Int.add_assoc]
theorem layL_len : ∀ (cs : List Cf) (p : Int), (layL cs p).length = cs.length
  | [], _ => rfl
  | c :: cs, p => by simp [layL, layL_len cs]
theorem layL_at : ∀ (cs : List Cf) (p : Int) (i : Nat) (c : Cf), cs[i]? = some c → (layL cs p)[i]? = some ⟨c.rights, p + sumN (cs.take i), needN c⟩
  | [], _, _, _, h => by simp at h
  | d :: cs, p, 0, c, h => by
    simp at h
    subst h
    simp [layL, sumN]
  | d :: cs, p, i + 1, c, h => by
    have := layL_at cs (p + needN d) i c (by simpa using h)
    simp only [layL, List.getElem?_cons_succ, this, List.take_succ_cons, sumN, List.map_cons, List.sum_cons]
    rw [Int.add_assoc]
theorem sum_take {cs : List Cf} {i : Nat} {c : Cf} (h : cs[i]? = some c) : sumN (cs.take (i + 1)) = sumN (cs.take i) + needN c := by
  rw [List.take_add_one, h]
  exact sumN_snoc _ _
theorem sum_mono (cs : List Cf) : ∀ {i k : Nat}, i ≤ k → sumN (cs.take i) ≤ sumN (cs.take k) := by
  intro i k h
  induction k with
  | zero => obtain rfl : i = 0 := by omega
            exact Int.le_refl _
  | succ k ih =>
    by_cases e : i = k + 1
    · subst e; exact Int.le_refl _
    · have h1 := ih (by omega)
      cases hc : cs[k]? with
      | none => rw [List.take_add_one, hc]; simpa using h1
      | some c => rw [sum_take hc]; have := need_in c; omega

/-- Two of one name. -/
def Twice (cs : List Cf) : Prop := ∃ (i k : Nat) (c d : Cf), k < i ∧ cs[i]? = some c ∧ cs[k]? = some d ∧ c.name = d.name
noncomputable def shareB (cs : List Cf) : Bool := @decide (Twice cs) (Classical.propDecidable _)
theorem share_yes {cs : List Cf} (h : Twice cs) : shareB cs = true := by unfold shareB; rw [@decide_eq_true _ (Classical.propDecidable _) h]
theorem share_no {cs : List Cf} (h : ¬ Twice cs) : shareB cs = false := by unfold shareB; rw [@decide_eq_false _ (Classical.propDecidable _) h]
/-- No two of the first k have one name. -/
def Lone (cs : List Cf) (n : Nat) : Prop := ∀ (i k : Nat) (c d : Cf), i < n → k < i → cs[i]? = some c → cs[k]? = some d → ¬ c.name = d.name
theorem lone_end {cs : List Cf} (h : Lone cs cs.length) : ¬ Twice cs := by
  rintro ⟨i, k, c, d, hk, hi, hd, e⟩
  exact h i k c d (List.getElem?_eq_some_iff.1 hi).1 hk hi hd e
theorem lone_zero (cs : List Cf) : Lone cs 0 := fun i k c d hi => by omega
theorem lone_step {cs : List Cf} {n : Nat} {c : Cf} (h : Lone cs n) (hc : cs[n]? = some c) (hn : ∀ (k : Nat) (d : Cf), k < n → cs[k]? = some d → ¬ c.name = d.name) : Lone cs (n + 1) := by
  intro i k c' d hi hk h1 h2
  by_cases e : i = n
  · subst e
    rw [hc] at h1
    cases h1
    exact hn k d hk h2
  · exact h i k c' d (by omega) hk h1 h2
/-- Which error a row of configs has. -/
noncomputable def errN (cs : List Cf) : Int := if winB cs.length 1 8 && cs.all rightB then (if shareB cs then 7 else 0) else 1
noncomputable def dealL (cs : List Cf) : List Cp := if winB cs.length 1 8 && cs.all rightB then (if shareB cs then [] else layL cs 0) else []
theorem err_arg {cs : List Cf} (h : (winB cs.length 1 8 && cs.all rightB) = false) : errN cs = 1 ∧ dealL cs = [] := by simp only [errN, dealL, h]; simp
theorem err_name {cs : List Cf} (h : winB cs.length 1 8 = true) (h' : cs.all rightB = true) (h'' : shareB cs = true) : errN cs = 7 ∧ dealL cs = [] := by simp [errN, dealL, h, h', h'']
theorem err_none {cs : List Cf} (h : winB cs.length 1 8 = true) (h' : cs.all rightB = true) (h'' : shareB cs = false) : errN cs = 0 ∧ dealL cs = layL cs 0 := by simp [errN, dealL, h, h', h'']
theorem err_any (cs : List Cf) : (errN cs = 1 ∨ errN cs = 7 ∨ errN cs = 0) ∧ (errN cs = 0 → dealL cs = layL cs 0 ∧ 1 ≤ cs.length ∧ cs.length ≤ 8) ∧ (¬ errN cs = 0 → dealL cs = []) := by
  cases h : (winB cs.length 1 8 && cs.all rightB) with
  | false => obtain ⟨h1, h2⟩ := err_arg h; rw [h1, h2]; simp
  | true =>
    rw [Bool.and_eq_true] at h
    have hw := win_true h.1
    cases h' : shareB cs with
    | true => obtain ⟨h1, h2⟩ := err_name h.1 h.2 h'; rw [h1, h2]; simp
    | false => obtain ⟨h1, h2⟩ := err_none h.1 h.2 h'; rw [h1, h2]; simp; omega

/-! A row of rows -/
theorem flat_at {α : Type} (f : α → List Value) (k : Nat) : ∀ (L : List α) (i j : Nat) (m : α) (v : Value), (∀ x ∈ L, (f x).length = k) → L[i]? = some m → (f m)[j]? = some v → (L.flatMap f)[i * k + j]? = some v
  | [], i, j, m, v, _, h, _ => by simp at h
  | x :: L, 0, j, m, v, hk, h, hj => by
    simp at h
    subst h
    rw [List.flatMap_cons, List.getElem?_append_left (by have := (List.getElem?_eq_some_iff.1 hj).1; omega)]
    simpa using hj
  | x :: L, i + 1, j, m, v, hk, h, hj => by
    have hl : (f x).length = k := hk x (by simp)
    have e : (i + 1) * k + j = k + (i * k + j) := by rw [Nat.add_mul, Nat.one_mul]; omega
    rw [List.flatMap_cons, List.getElem?_append_right (by omega), hl, e, Nat.add_sub_cancel_left]
    exact flat_at f k L i j m v (fun y hy => hk y (by simp [hy])) (by simpa using h) hj
theorem flat_len {α : Type} (f : α → List Value) (k : Nat) : ∀ (L : List α), (∀ x ∈ L, (f x).length = k) → (L.flatMap f).length = L.length * k
  | [], _ => by simp
  | x :: L, h => by
    rw [List.flatMap_cons, List.length_append, flat_len f k L (fun y hy => h y (by simp [hy])), h x (by simp), List.length_cons, Nat.add_mul, Nat.one_mul, Nat.add_comm]
def cfs (cs : List Cf) : List Value := cs.flatMap Cf.list
def cps (ps : List Cp) : List Value := ps.flatMap Cp.list
theorem cfs_len (cs : List Cf) : (cfs cs).length = cs.length * 7 := flat_len Cf.list 7 cs (fun _ _ => rfl)
theorem cps_len (ps : List Cp) : (cps ps).length = ps.length * 3 := flat_len Cp.list 3 ps (fun _ _ => rfl)
theorem cfs_at {cs : List Cf} {i j : Nat} {c : Cf} {v : Value} (h : cs[i]? = some c) (hj : c.list[j]? = some v) : (cfs cs)[i * 7 + j]? = some v := flat_at Cf.list 7 cs i j c v (fun _ _ => rfl) h hj
theorem cps_at {ps : List Cp} {i j : Nat} {p : Cp} {v : Value} (h : ps[i]? = some p) (hj : p.list[j]? = some v) : (cps ps)[i * 3 + j]? = some v := flat_at Cp.list 3 ps i j p v (fun _ _ => rfl) h hj
theorem cfs_snoc (cs : List Cf) (c : Cf) : cfs cs ++ c.list = cfs (cs ++ [c]) := by simp [cfs]
theorem cps_snoc (ps : List Cp) (p : Cp) : cps ps ++ p.list = cps (ps ++ [p]) := by simp [cps]
theorem cf_one (c : Cf) : ∀ v ∈ c.list, v.oneCell' = true := by
  intro v hv
  simp only [Cf.list, List.mem_cons, List.not_mem_nil, or_false] at hv
  rcases hv with rfl | rfl | rfl | rfl | rfl | rfl | rfl <;> rfl
theorem cp_one (p : Cp) : ∀ v ∈ p.list, v.oneCell' = true := by
  intro v hv
  simp only [Cp.list, List.mem_cons, List.not_mem_nil, or_false] at hv
  rcases hv with rfl | rfl | rfl <;> rfl
theorem cfs_one (cs : List Cf) : ∀ v ∈ cfs cs, v.oneCell' = true := by
  intro v hv
  obtain ⟨c, _, h⟩ := List.mem_flatMap.1 hv
  exact cf_one c v h
end Go.Proofs.Ytljkngalnoepmaa
