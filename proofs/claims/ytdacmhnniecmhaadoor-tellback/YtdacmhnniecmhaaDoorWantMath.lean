/-
  A form asked for one field after another: what it comes to, whether an error comes (plain).
-/
import Derived.Test.YtdacmhnniecmhaaDoorValueMath
namespace Go.Proofs.YtdacmhnniecmhaaDoor
open Go.Lib

/-- What a field is asked for as: the error of each text. -/
structure Want where
  err : ByteArray → Int
abbrev Want.name : Want := ⟨nameVE⟩
abbrev Want.int (low high : Int) : Want := ⟨fun s => (intVE s low high).2⟩
/-- A form's fields, the first error's tag, the first error. -/
abbrev StP := (Int → Option (ByteArray × Bool)) × Int × Int
/-- The form behind one ask. -/
def stepW (st : StP) (p : Int × Want) : StP := askS st.1 st.2.1 st.2.2 p.1 p.2.err
/-- The form behind many. -/
def runS (st : StP) (ws : List (Int × Want)) : StP := ws.foldl stepW st
theorem runS_nil (st : StP) : runS st [] = st := rfl
theorem runS_cons (st : StP) (p : Int × Want) (ws : List (Int × Want)) : runS st (p :: ws) = runS (stepW st p) ws := rfl
theorem runS_append (st : StP) (a b : List (Int × Want)) : runS st (a ++ b) = runS (runS st a) b := by unfold runS; rw [List.foldl_append]
/-- A field is there and is what it is asked for as. -/
def Fits (L : Int → Option (ByteArray × Bool)) (p : Int × Want) : Prop := ∃ s b, L p.1 = some (s, b) ∧ p.2.err s = 0
theorem step_fits {L : Int → Option (ByteArray × Bool)} {ts : List Int} {at_ : Int} {p : Int × Want} (h : Fits L p) : stepW (markAll L ts, at_, 0) p = (markAll L (ts ++ [p.1]), at_, 0) := by
  obtain ⟨s, b, h1, h2⟩ := h
  unfold stepW
  dsimp only
  rw [askS_good (markAll_at h1) h2, markAll_more h1]
theorem runS_good {L : Int → Option (ByteArray × Bool)} {at_ : Int} : ∀ (ws : List (Int × Want)) (ts : List Int), (∀ p ∈ ws, Fits L p) → runS (markAll L ts, at_, 0) ws = (markAll L (ts ++ ws.map Prod.fst), at_, 0)
  | [], ts, _ => by simp [runS_nil]
  | p :: ws, ts, h => by
    rw [runS_cons, step_fits (h p (by simp)), runS_good ws _ (fun q hq => h q (by simp [hq]))]
    simp
theorem step_err {st : StP} {p : Int × Want} (h : st.2.2 ≠ 0) : stepW st p = st := by
  unfold stepW
  rw [askS_err _ h]
theorem runS_err {st : StP} (h : st.2.2 ≠ 0) : ∀ ws : List (Int × Want), runS st ws = st
  | [] => rfl
  | p :: ws => by rw [runS_cons, step_err h, runS_err h ws]
theorem step_ok {L : Int → Option (ByteArray × Bool)} {ts : List Int} {at_ : Int} {p : Int × Want} (h : (stepW (markAll L ts, at_, 0) p).2.2 = 0) : Fits L p := by
  obtain ⟨_, s, b, h1, h2, _⟩ := ask_ok h
  dsimp only at h1
  cases hL : L p.1 with
  | none =>
    rw [markAll_none hL] at h1
    simp at h1
  | some q =>
    obtain ⟨s', b'⟩ := q
    rw [markAll_at hL] at h1
    simp only [Option.some.injEq, Prod.mk.injEq] at h1
    exact ⟨s', b', hL, by rw [h1.1]; exact h2⟩
theorem runS_ok {L : Int → Option (ByteArray × Bool)} {at_ : Int} : ∀ (ws : List (Int × Want)) (ts : List Int), (runS (markAll L ts, at_, 0) ws).2.2 = 0 → ∀ p ∈ ws, Fits L p
  | [], _, _ => fun p hp => by simp at hp
  | p :: ws, ts, h => by
    rw [runS_cons] at h
    by_cases he : (stepW (markAll L ts, at_, 0) p).2.2 = 0
    · have hf := step_ok he
      rw [step_fits hf] at h
      intro q hq
      rcases List.mem_cons.1 hq with rfl | hq
      · exact hf
      · exact runS_ok ws _ h q hq
    · rw [runS_err he] at h
      exact absurd h he
/-- A form that is new has nothing asked for but its kind. -/
theorem runS_fresh {L : Int → Option (ByteArray × Bool)} {at_ : Int} (ws : List (Int × Want)) (h : ∀ p ∈ ws, Fits L p) : runS (L, at_, 0) ws = (markAll L (ws.map Prod.fst), at_, 0) := by
  have := runS_good (at_ := at_) ws [] h
  rw [markAll_nil] at this
  simpa using this
theorem runS_fresh_ok {L : Int → Option (ByteArray × Bool)} {at_ : Int} (ws : List (Int × Want)) (h : (runS (L, at_, 0) ws).2.2 = 0) : ∀ p ∈ ws, Fits L p := by
  have := runS_ok (L := L) (at_ := at_) ws []
  rw [markAll_nil] at this
  exact this h
/-- What an ask tells, where all ahead of it was right. -/
theorem told_fits {α : Type} {L : Int → Option (ByteArray × Bool)} {ts : List Int} {t : Int} {err : ByteArray → Int} {val : ByteArray → α} {zero : α} {s : ByteArray} {b : Bool} (h : L t = some (s, b)) (hs : err s = 0) : askV (markAll L ts) 0 t err val zero = val s := askV_good (markAll_at h) hs
/-- What Done tells of a form that has no error. -/
theorem spare_cases (L : Int → Option (ByteArray × Bool)) : ∀ tags : List Int, (spareE L tags = (0, 0) ∧ ∀ t ∈ tags, askedB L t = true) ∨ (spareE L tags).2 = 113
  | [] => .inl ⟨rfl, fun t h => by simp at h⟩
  | t :: r => by
    rw [spareE]
    by_cases h : askedB L t = true
    · rw [if_pos h]
      rcases spare_cases L r with ⟨h1, h2⟩ | h1
      · refine .inl ⟨h1, fun u hu => ?_⟩
        rcases List.mem_cons.1 hu with rfl | hu
        · exact h
        · exact h2 u hu
      · exact .inr h1
    · rw [if_neg h]
      exact .inr rfl
theorem asked_all {l : List Fd} (hn : (l.map Prod.fst).Nodup) {ts : List Int} {t : Int} (ht : t ∈ l.map Prod.fst) : askedB (markAll (lookF l) ts) t = ((t == 35) || ts.contains t) := by
  obtain ⟨p, hp, rfl⟩ := List.mem_map.1 ht
  have := lookF_mem hn hp
  unfold askedB
  rw [markAll_at this]
/-- A body whose fields are those of the list of asks and its kind, has none too much. -/
theorem done_all {l : List Fd} (hn : (l.map Prod.fst).Nodup) {ts : List Int} (h : ∀ t ∈ l.map Prod.fst, t = 35 ∨ t ∈ ts) : spareE (markAll (lookF l) ts) (l.map Prod.fst) = (0, 0) := by
  refine spare_all _ (fun t ht => ?_)
  rw [asked_all hn ht]
  rcases h t ht with rfl | h
  · simp
  · simp [h]
theorem done_back {l : List Fd} (hn : (l.map Prod.fst).Nodup) {ts : List Int} (h : (spareE (markAll (lookF l) ts) (l.map Prod.fst)).2 = 0) : ∀ t ∈ l.map Prod.fst, t = 35 ∨ t ∈ ts := by
  intro t ht
  rcases spare_cases (markAll (lookF l) ts) (l.map Prod.fst) with ⟨_, h2⟩ | h2
  · have := h2 t ht
    rw [asked_all hn ht] at this
    simpa using this
  · rw [h2] at h
    simp at h
/-- A field that lies in a list fits, if its text does. -/
theorem fits_mem {l : List Fd} (hn : (l.map Prod.fst).Nodup) {t : Int} {v : ByteArray} (h : (t, v) ∈ l) {w : Want} (hv : w.err v = 0) : Fits (lookF l) (t, w) := ⟨v, _, lookF_mem hn h, hv⟩
end Go.Proofs.YtdacmhnniecmhaaDoor
