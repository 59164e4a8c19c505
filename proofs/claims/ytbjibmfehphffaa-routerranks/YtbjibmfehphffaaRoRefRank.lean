/-
  Contract of the reference's Rank: each is put behind all that it doesn't stand ahead of.
-/
import Derived.Test.YtbjibmfehphffaaRoRefB
import Derived.Test.YtbjibmfehphffaaStMerge
import Derived.Test.YtbjibmfehphffaaRoSplit
namespace Go.Proofs.Ytbjibmfehphffaa.RO
open Go.ChangeShapes Go.WideShapes Go.ChangeAt Go.RowKit Go.Proofs.Ytbjibmfehphffaa.ST

/-- One more is put into the order of the first i: at place p. -/
theorem ranked_more {L : Nat → Of} {i p : Nat} {f : Nat → Nat} (h : Ranked L i f) (hp : p ≤ i) (h1 : ∀ k, p ≤ k → k < i → ltP L i (f k) = true) (h2 : p = 0 ∨ ltP L i (f (p - 1)) = false) : Ranked L (i + 1) (rot p i (i + 1) f) := by
  have hS := ltP_swo L
  have fi : f i = i := h.1.out i (.inr (Nat.le_refl _))
  have r0 : ∀ k, k < p → rot p i (i + 1) f k = f k := fun k hk => by unfold rot; rw [if_neg (by omega), if_neg (by omega)]
  have r1 : rot p i (i + 1) f p = i := by unfold rot; rw [if_pos (by omega), show p - p + i = i by omega, fi]
  have r2 : ∀ k, p < k → k < i + 1 → rot p i (i + 1) f k = f (k - 1) := fun k k1 k2 => by unfold rot; rw [if_neg (by omega), if_pos (by omega), show k - (i + 1 - i) = k - 1 by omega]
  have fl : ∀ k, k < i → f k < i := fun k hk => h.lt hk
  have low : ∀ k, k < p → Ah (ltP L) (f k) i := fun k hk => by
    rcases h2 with h2 | h2
    · omega
    · have q : Ah (ltP L) (f (p - 1)) i := Ah.of_not h2 (fl _ (by omega))
      rcases Nat.lt_or_ge k (p - 1) with c | c
      · exact (h.2 k (p - 1) (Nat.zero_le _) c (by omega)).trans hS q
      · rw [show k = p - 1 by omega]; exact q
  refine ⟨(h.1.mono (Nat.le_refl _) (by omega)).trans ((rot_pm f hp (by omega)).mono (Nat.zero_le _) (Nat.le_refl _)), fun k l _ kl ll => ?_⟩
  rcases Nat.lt_trichotomy k p with ck | ck | ck
  · rw [r0 k ck]
    rcases Nat.lt_trichotomy l p with cl | cl | cl
    · rw [r0 l cl]; exact h.2 k l (Nat.zero_le _) kl (by omega)
    · subst cl; rw [r1]; exact low k ck
    · rw [r2 l cl ll]; exact h.2 k (l - 1) (Nat.zero_le _) (by omega) (by omega)
  · subst ck
    rw [r1, r2 l kl ll]
    exact .inl (h1 (l - 1) (by omega) (by omega))
  · rw [r2 k ck (by omega), r2 l (by omega) ll]
    exact h.2 (k - 1) (l - 1) (Nat.zero_le _) (by omega) (by omega)
theorem rot_list {L : Nat → Of} {i p : Nat} {f : Nat → Nat} (hp : p ≤ i) (fi : f i = i) : listO (fun k => L (rot p i (i + 1) f k)) (i + 1) = (listO (fun k => L (f k)) p ++ listO (fun _ => L i) 1) ++ listO (fun k => L (f (p + k))) (i - p) := by
  refine List.ext_getElem? (fun j => ?_)
  rcases Nat.lt_or_ge j (i + 1) with c | c
  · rw [listO_at c]
    rcases Nat.lt_trichotomy j p with cj | cj | cj
    · rw [List.getElem?_append_left (by rw [List.length_append, listO_length, listO_length]; omega), List.getElem?_append_left (by rw [listO_length]; exact cj), listO_at cj]
      unfold rot; rw [if_neg (by omega), if_neg (by omega)]
    · subst cj
      rw [List.getElem?_append_left (by rw [List.length_append, listO_length, listO_length]; omega), List.getElem?_append_right (by rw [listO_length]; omega), listO_length, Nat.sub_self]
      unfold rot; rw [if_pos (by omega), show j - j + i = i by omega, fi]; rfl
    · rw [List.getElem?_append_right (by rw [List.length_append, listO_length, listO_length]; omega), List.length_append, listO_length, listO_length, listO_at (by omega)]
      unfold rot; rw [if_neg (by omega), if_pos (by omega)]
      rw [show p + (j - (p + 1)) = j - (i + 1 - i) by omega]
  · rw [List.getElem?_eq_none (by rw [listO_length]; omega), List.getElem?_eq_none (by simp only [List.length_append, listO_length]; omega)]
theorem RowL.head {w : World} {a : Option Addr} {n cap p : Nat} {L : Nat → Of} (h : RowL w (.slice a n cap) n L) (hp : p ≤ n) : RowL w (.slice a p cap) p L := by
  obtain ⟨a', cap', e, h1, h3⟩ := h
  injection e with e1 e2 e3
  subst e1 e3
  exact ⟨a, cap, rfl, by omega, fun _ hi => h3 _ (by omega)⟩
theorem RowL.tail {w : World} {b o n cap p : Nat} {L : Nat → Of} (h : RowL w (.slice (some ⟨b, o, none⟩) n cap) n L) (hp : p ≤ n) : RowL w (.slice (some ⟨b, o + p * 5, none⟩) (n - p) (cap - p)) (n - p) (fun k => L (p + k)) := by
  obtain ⟨a', cap', e, h1, h3⟩ := h
  injection e with e1 e2 e3
  subst e1 e3
  refine ⟨_, _, rfl, by omega, fun i hi => ⟨b, o + p * 5, rfl, ?_⟩⟩
  obtain ⟨b', o', e, c⟩ := h3 (p + i) (by omega)
  injection e with e
  injection e with e1 e2
  subst e1 e2
  rw [show o + p * 5 + i * 5 = o + (p + i) * 5 by omega]
  exact c
theorem RowL.nothing (w : World) (a : Option Addr) (cap : Nat) (L : Nat → Of) : RowL w (.slice a 0 cap) 0 L := ⟨a, cap, rfl, Nat.zero_le _, fun _ hi => absurd hi (Nat.not_lt_zero _)⟩
set_option maxRecDepth 100000 in
set_option maxHeartbeats 4000000 in
theorem rankR_any (n : Nat) (L : Nat → Of) (v : Value) (w : World) (h : RowL w v n L) (hn : n ≤ 1000) :
    Calls Try.prog 12 #[v] w fun e w' => ∃ v', e = .returned v' ∧ ∃ f, Hid (Ranked L n f ∧ w'.ownsRow w.heap.size 36 5 v' n (allO (listO (fun k => L (f k)) n)) ∧ Below w.heap.size w w') := by
  obtain ⟨a, cap, rfl, hcap, hc⟩ := id h
  go_enter Try.func12, Try.ntmps12
  go_wp2_with fail
  go_loopw [3, 4] (fun y x wr => ∃ (i : Nat) (f : Nat → Nat), x = .int .i64 (i : Int) ∧ i ≤ n ∧ Hid (Ranked L i f ∧ wr.ownsRow w.heap.size 36 5 y i (allO (listO (fun k => L (f k)) i))) ∧ Below w.heap.size w wr) (fun _ x _ => n - (RowKit.intOf x).toNat)
  case atStart => exact ⟨0, id, rfl, Nat.zero_le _, ⟨⟨Pm.refl _ _ _, fun k l _ _ h3 => absurd h3 (Nat.not_lt_zero _)⟩, World.ownsRow_nil _ _ _ _⟩, Below.refl _ _⟩
  case round =>
    obtain ⟨i, f, rfl, hi, HI, hB⟩ := hrel
    by_cases hlt : i < n
    · have t : (i : Int) < (n : Int) := by omega
      obtain ⟨b, o, rfl, c⟩ := hc i hlt
      have c' := c.below hB
      obtain ⟨au, cu, rfl⟩ : ∃ au cu, u3 = Value.slice au i cu := own_shape HI.out.2
      clear c hc h
      go_wp2_with fail
      go_loopw [5] (fun x wr2 => ∃ p : Nat, x = .int .i64 (p : Int) ∧ p ≤ i ∧ Hid (∀ k, p ≤ k → k < i → ltP L i (f k) = true) ∧ Below wr.heap.size wr wr2) (fun x _ => (RowKit.intOf x).toNat)
      case atStart => exact ⟨i, rfl, Nat.le_refl _, fun k h1 h2 => absurd h1 (by omega), Below.refl _ _⟩
      case round =>
        obtain ⟨p, rfl, hpi, HP, hB2⟩ := hrel
        have HBB : Hid (Below w.heap.size w wr) := hB.trans (hB2.mono hB.size)
        have HR : Hid (Ranked L i f) := HI.out.1
        have HFI : Hid (f i = i) := HI.out.1.1.out i (.inr (Nat.le_refl _))
        have HOW : Hid (wr.ownsRow w.heap.size 36 5 (.slice au i cu) i (allO (listO (fun k => L (f k)) i))) := own_below HI.out.2 hB2
        have HRO : Hid (RowL wr (.slice au i cu) i (fun k => L (f k))) := rowL_of_own HOW.out
        have HSH : Hid ((au = none ∧ cu = 0 ∧ i = 0) ∨ ∃ g, au = some ⟨g, 0, none⟩ ∧ i ≤ cu) := by
          rcases HOW.out.2 with ⟨e1, e2⟩ | ⟨g, cap, cur, e1, _, _, h1, _⟩
          · injection e1 with e1 _ e3; exact .inl ⟨e1, e3, e2⟩
          · injection e1 with e1 _ e3; exact .inr ⟨g, e1, by omega⟩
        have cc := c'.below hB2
        have HLX : Hid (∀ k, ltP L i (f k) = ltO (L i) (L (f k))) := fun _ => rfl
        obtain ⟨x, hx⟩ : ∃ x, L i = x := ⟨_, rfl⟩
        rw [hx] at cc HLX
        replace hx : Hid (L i = x) := hx
        clear c'
        have lb := cc.lt
        obtain ⟨x0, x1, x2, x3, x4⟩ := x
        obtain ⟨e0, e1, e2, e3, e4⟩ := cc.all
        clear cc
        simp only at e0 e1 e2 e3 e4
        by_cases hp0 : p = 0
        · subst hp0
          go_wp2_with fail
          go_quiet (fail)
          have BX : Below wr.heap.size wr (wr.drewN nq) := below_drewN _ _ _
          generalize wr.drewN nq = wx at BX ⊢
          have HBB : Hid (Below w.heap.size w wx) := HBB.out.trans (BX.mono HBB.out.size)
          have HRO : Hid (RowL wx (.slice au i cu) i (fun k => L (f k))) := HRO.out.below BX
          have e0 := (BX.cell (p := ⟨b, o + i * 5, none⟩) lb).trans e0
          have e1 := (BX.cell (p := ⟨b, o + i * 5 + 1, none⟩) lb).trans e1
          have e2 := (BX.cell (p := ⟨b, o + i * 5 + 2, none⟩) lb).trans e2
          have e3 := (BX.cell (p := ⟨b, o + i * 5 + 3, none⟩) lb).trans e3
          have e4 := (BX.cell (p := ⟨b, o + i * 5 + 4, none⟩) lb).trans e4
          replace lb := Nat.lt_of_lt_of_le lb BX.size
          clear BX
          rcases HSH.out with ⟨rfl, rfl, hi0⟩ | ⟨g, rfl, hic⟩
          · have HH : Hid (RowL wx (.slice none (0) 0) (0) (fun k => L (f k)) ∧ True) := ⟨HRO.out.head (Nat.zero_le _), trivial⟩
            have ti0 : (i : Int) ≤ 0 := by omega
            have hi1 : Hid (i = 0) := hi0
            clear hi0
            go_wp2_with (at_builtin; refine wpList_append_offers rfl _ _ rfl wx.heap.size _ _ [] (0) (fun k => L (f k)) rfl rfl (World.ownsRow_nil _ _ _ _) HH.out.1 (Nat.zero_le _) (by omega) (Nat.le_refl _) ?_)
            intro a1 c1' k1 w1 HG1
            have B1 : Below wx.heap.size wx w1 := (Below.refl _ _).grown HG1.out.2.2 (Nat.le_refl _) (fun k hk => by cases hk)
            have s1 := B1.size
            have d0 := (B1.cell (p := ⟨b, o + i * 5, none⟩) lb).trans e0
            have d1 := (B1.cell (p := ⟨b, o + i * 5 + 1, none⟩) lb).trans e1
            have d2 := (B1.cell (p := ⟨b, o + i * 5 + 2, none⟩) lb).trans e2
            have d3 := (B1.cell (p := ⟨b, o + i * 5 + 3, none⟩) lb).trans e3
            have d4 := (B1.cell (p := ⟨b, o + i * 5 + 4, none⟩) lb).trans e4
            go_wp2_with (at_builtin; refine wpList_append_offers rfl _ _ rfl wx.heap.size _ _ (listO (fun k => L (f k)) (0)) 1 (fun _ => ⟨x0, x1, x2, x3, x4⟩) rfl rfl (own_below HG1.out.2.1 ((Below.refl _ _).alloc (Nat.le_refl _) _)) (rowL_one w1 ⟨x0, x1, x2, x3, x4⟩ _) (by rw [listO_length]; omega) (by omega) (by rw [World.size_alloc]; omega) ?_)
            intro a2 c2' k2 w2 HG2
            have BA : Below wx.heap.size wx (w1.alloc (.cells #[.int .i64 x0, .int .i64 x1, .int .i64 x2, .int .i64 x3, .bool x4] 36)) := B1.alloc s1 _
            have B2 : Below wx.heap.size wx w2 := BA.grown HG2.out.2.2 BA.size (fun k hk => (HG1.out.2.1.lt k hk).1)
            have s2 := B2.size
            clear d0 d1 d2 d3 d4
            go_wp2_with (at_builtin; refine wpList_append_offers rfl _ _ rfl wx.heap.size _ _ (listO (fun k => L (f k)) (0) ++ listO (fun _ => ⟨x0, x1, x2, x3, x4⟩) 1) (i) (fun k => L (f ((0) + k))) rfl rfl HG2.out.2.1 (⟨_, _, rfl, by have := hi1.out; omega, fun k hk => absurd hk (by have := hi1.out; omega)⟩) (by simp only [List.length_append, listO_length]; omega) (by omega) (by omega) ?_)
            intro a3 c3' k3 w3 HG3
            have B3 : Below wx.heap.size wx w3 := B2.grown HG3.out.2.2 s2 (fun k hk => (HG2.out.2.1.lt k hk).1)
            have HO3 : Hid (k3 = i + 1 ∧ w3.ownsRow w.heap.size 36 5 (.slice a3 k3 c3') k3 (allO (listO (fun k => L (rot (0) i (i + 1) f k)) (i + 1))) ∧ Below w.heap.size w w3) := by
              refine ⟨?_, ?_, HBB.out.trans (B3.mono HBB.out.size)⟩
              · have := HG3.out.1; simp [listO_length] at this; omega
              · rw [rot_list (by omega) HFI.out, hx.out]
                have := own_mono HG3.out.2.1 HBB.out.size
                simp only [List.append_assoc, Nat.zero_add, Nat.sub_zero] at this ⊢
                exact this
            obtain rfl : k3 = i + 1 := HO3.out.1
            have HRK : Hid (Ranked L (i + 1) (rot (0) i (i + 1) f)) := ranked_more HR.out (by omega) HP.out (.inl rfl)
            clear HG1 HG2 HG3
            go_wp2_with fail
            go_roundw
            case rel => exact ⟨i + 1, rot (0) i (i + 1) f, by simp, by omega, ⟨HRK.out, HO3.out.2.1⟩, HO3.out.2.2⟩
            case measure => simp [RowKit.intOf] <;> omega
          · have t00 := hic
            have tc : ((0 : Nat) : Int) ≤ (cu : Int) := by omega
            have ti : ((0 : Nat) : Int) ≤ (i : Int) := by omega
            have tic : (i : Int) ≤ (cu : Int) := by omega
            by_cases hfull : cu - (0) = 0
            · obtain rfl : cu = 0 := by omega
              have HH : Hid (RowL wx (.slice (some ⟨g, 0, none⟩) (0) 0) (0) (fun k => L (f k)) ∧ True) := ⟨HRO.out.head (by omega), trivial⟩
              have hi1 : Hid (i = 0) := show i = 0 by omega
              clear hfull hic t00
              go_wp2_with (at_builtin; refine wpList_append_offers rfl _ _ rfl wx.heap.size _ _ [] (0) (fun k => L (f k)) rfl rfl (World.ownsRow_nil _ _ _ _) HH.out.1 (Nat.zero_le _) (by omega) (Nat.le_refl _) ?_)
              intro a1 c1' k1 w1 HG1
              have B1 : Below wx.heap.size wx w1 := (Below.refl _ _).grown HG1.out.2.2 (Nat.le_refl _) (fun k hk => by cases hk)
              have s1 := B1.size
              have d0 := (B1.cell (p := ⟨b, o + i * 5, none⟩) lb).trans e0
              have d1 := (B1.cell (p := ⟨b, o + i * 5 + 1, none⟩) lb).trans e1
              have d2 := (B1.cell (p := ⟨b, o + i * 5 + 2, none⟩) lb).trans e2
              have d3 := (B1.cell (p := ⟨b, o + i * 5 + 3, none⟩) lb).trans e3
              have d4 := (B1.cell (p := ⟨b, o + i * 5 + 4, none⟩) lb).trans e4
              go_wp2_with (at_builtin; refine wpList_append_offers rfl _ _ rfl wx.heap.size _ _ (listO (fun k => L (f k)) (0)) 1 (fun _ => ⟨x0, x1, x2, x3, x4⟩) rfl rfl (own_below HG1.out.2.1 ((Below.refl _ _).alloc (Nat.le_refl _) _)) (rowL_one w1 ⟨x0, x1, x2, x3, x4⟩ _) (by rw [listO_length]; omega) (by omega) (by rw [World.size_alloc]; omega) ?_)
              intro a2 c2' k2 w2 HG2
              have BA : Below wx.heap.size wx (w1.alloc (.cells #[.int .i64 x0, .int .i64 x1, .int .i64 x2, .int .i64 x3, .bool x4] 36)) := B1.alloc s1 _
              have B2 : Below wx.heap.size wx w2 := BA.grown HG2.out.2.2 BA.size (fun k hk => (HG1.out.2.1.lt k hk).1)
              have s2 := B2.size
              clear d0 d1 d2 d3 d4
              go_wp2_with (at_builtin; refine wpList_append_offers rfl _ _ rfl wx.heap.size _ _ (listO (fun k => L (f k)) (0) ++ listO (fun _ => ⟨x0, x1, x2, x3, x4⟩) 1) (i) (fun k => L (f ((0) + k))) rfl rfl HG2.out.2.1 (⟨_, _, rfl, by have := hi1.out; omega, fun k hk => absurd hk (by have := hi1.out; omega)⟩) (by simp only [List.length_append, listO_length]; omega) (by omega) (by omega) ?_)
              intro a3 c3' k3 w3 HG3
              have B3 : Below wx.heap.size wx w3 := B2.grown HG3.out.2.2 s2 (fun k hk => (HG2.out.2.1.lt k hk).1)
              have HO3 : Hid (k3 = i + 1 ∧ w3.ownsRow w.heap.size 36 5 (.slice a3 k3 c3') k3 (allO (listO (fun k => L (rot (0) i (i + 1) f k)) (i + 1))) ∧ Below w.heap.size w w3) := by
                refine ⟨?_, ?_, HBB.out.trans (B3.mono HBB.out.size)⟩
                · have := HG3.out.1; simp [listO_length] at this; omega
                · rw [rot_list (by omega) HFI.out, hx.out]
                  have := own_mono HG3.out.2.1 HBB.out.size
                  simp only [List.append_assoc, Nat.zero_add, Nat.sub_zero] at this ⊢
                  exact this
              obtain rfl : k3 = i + 1 := HO3.out.1
              have HRK : Hid (Ranked L (i + 1) (rot (0) i (i + 1) f)) := ranked_more HR.out (by omega) HP.out (.inl rfl)
              clear HG1 HG2 HG3
              go_wp2_with fail
              go_roundw
              case rel => exact ⟨i + 1, rot (0) i (i + 1) f, by simp, by omega, ⟨HRK.out, HO3.out.2.1⟩, HO3.out.2.2⟩
              case measure => simp [RowKit.intOf] <;> omega
            · have HH : Hid (RowL wx (.slice (some ⟨g, 0, none⟩) (0) cu) (0) (fun k => L (f k)) ∧ RowL wx (.slice (some ⟨g, (0) * 5, none⟩) (i - (0)) (cu - (0))) (i - (0)) (fun k => L (f ((0) + k)))) := ⟨HRO.out.head (by omega), by have := HRO.out.tail (show 0 ≤ i by omega); rw [Nat.zero_add] at this; exact this⟩
              go_wp2_with (at_builtin; refine wpList_append_offers rfl _ _ rfl wx.heap.size _ _ [] (0) (fun k => L (f k)) rfl rfl (World.ownsRow_nil _ _ _ _) HH.out.1 (Nat.zero_le _) (by omega) (Nat.le_refl _) ?_)
              intro a1 c1' k1 w1 HG1
              have B1 : Below wx.heap.size wx w1 := (Below.refl _ _).grown HG1.out.2.2 (Nat.le_refl _) (fun k hk => by cases hk)
              have s1 := B1.size
              have d0 := (B1.cell (p := ⟨b, o + i * 5, none⟩) lb).trans e0
              have d1 := (B1.cell (p := ⟨b, o + i * 5 + 1, none⟩) lb).trans e1
              have d2 := (B1.cell (p := ⟨b, o + i * 5 + 2, none⟩) lb).trans e2
              have d3 := (B1.cell (p := ⟨b, o + i * 5 + 3, none⟩) lb).trans e3
              have d4 := (B1.cell (p := ⟨b, o + i * 5 + 4, none⟩) lb).trans e4
              go_wp2_with (at_builtin; refine wpList_append_offers rfl _ _ rfl wx.heap.size _ _ (listO (fun k => L (f k)) (0)) 1 (fun _ => ⟨x0, x1, x2, x3, x4⟩) rfl rfl (own_below HG1.out.2.1 ((Below.refl _ _).alloc (Nat.le_refl _) _)) (rowL_one w1 ⟨x0, x1, x2, x3, x4⟩ _) (by rw [listO_length]; omega) (by omega) (by rw [World.size_alloc]; omega) ?_)
              intro a2 c2' k2 w2 HG2
              have BA : Below wx.heap.size wx (w1.alloc (.cells #[.int .i64 x0, .int .i64 x1, .int .i64 x2, .int .i64 x3, .bool x4] 36)) := B1.alloc s1 _
              have B2 : Below wx.heap.size wx w2 := BA.grown HG2.out.2.2 BA.size (fun k hk => (HG1.out.2.1.lt k hk).1)
              have s2 := B2.size
              clear d0 d1 d2 d3 d4
              go_wp2_with (at_builtin; refine wpList_append_offers rfl _ _ rfl wx.heap.size _ _ (listO (fun k => L (f k)) (0) ++ listO (fun _ => ⟨x0, x1, x2, x3, x4⟩) 1) (i) (fun k => L (f ((0) + k))) rfl rfl HG2.out.2.1 (HH.out.2.below B2) (by simp only [List.length_append, listO_length]; omega) (by omega) (by omega) ?_)
              intro a3 c3' k3 w3 HG3
              have B3 : Below wx.heap.size wx w3 := B2.grown HG3.out.2.2 s2 (fun k hk => (HG2.out.2.1.lt k hk).1)
              have HO3 : Hid (k3 = i + 1 ∧ w3.ownsRow w.heap.size 36 5 (.slice a3 k3 c3') k3 (allO (listO (fun k => L (rot (0) i (i + 1) f k)) (i + 1))) ∧ Below w.heap.size w w3) := by
                refine ⟨?_, ?_, HBB.out.trans (B3.mono HBB.out.size)⟩
                · have := HG3.out.1; simp [listO_length] at this; omega
                · rw [rot_list (by omega) HFI.out, hx.out]
                  have := own_mono HG3.out.2.1 HBB.out.size
                  simp only [List.append_assoc, Nat.zero_add, Nat.sub_zero] at this ⊢
                  exact this
              obtain rfl : k3 = i + 1 := HO3.out.1
              have HRK : Hid (Ranked L (i + 1) (rot (0) i (i + 1) f)) := ranked_more HR.out (by omega) HP.out (.inl rfl)
              clear HG1 HG2 HG3
              go_wp2_with fail
              go_roundw
              case rel => exact ⟨i + 1, rot (0) i (i + 1) f, by simp, by omega, ⟨HRK.out, HO3.out.2.1⟩, HO3.out.2.2⟩
              case measure => simp [RowKit.intOf] <;> omega
        · obtain ⟨q, rfl⟩ : ∃ q, p = q + 1 := ⟨p - 1, by omega⟩
          obtain ⟨g, rfl, hic⟩ : ∃ g, au = some ⟨g, 0, none⟩ ∧ i ≤ cu := by
            rcases HSH.out with ⟨_, _, h0⟩ | h0
            · omega
            · exact h0
          have cq : Fiv wr g (q * 5) (L (f q)) := by
            obtain ⟨a', cap', e, _, h3⟩ := HRO.out
            injection e with e
            obtain ⟨b', o', e', c⟩ := h3 q (by omega)
            rw [← e] at e'
            injection e' with e'
            injection e' with e1 e2
            subst e1 e2
            rw [Nat.zero_add] at c
            exact c
          have HQ : Hid (ltP L i (f q) = ltO ⟨x0, x1, x2, x3, x4⟩ (L (f q))) := HLX.out q
          have lg := cq.lt
          obtain ⟨y, hy⟩ : ∃ y, L (f q) = y := ⟨_, rfl⟩
          rw [hy] at cq HQ
          clear hy
          obtain ⟨y0, y1, y2, y3, y4⟩ := y
          obtain ⟨c0, c1, c2, c3, c4⟩ := cq.all
          clear cq hp0
          simp only at c0 c1 c2 c3 c4
          have F := fun w => ahead_any ⟨x0, x1, x2, x3, x4⟩ ⟨y0, y1, y2, y3, y4⟩ w
          unfold oV at F
          simp only at F
          generalize ltO ⟨x0, x1, x2, x3, x4⟩ ⟨y0, y1, y2, y3, y4⟩ = s at F HQ
          have keep : ∀ {W : World} {z k : Nat} {v : Value}, z < wr.heap.size → Below wr.drew.heap.size wr.drew W → wr.cell? ⟨z, k, none⟩ = some v → W.cell? ⟨z, k, none⟩ = some v := fun hq hb hc => (hb.cell (p := ⟨_, _, none⟩) hq).trans hc
          have t2 : (0 : Int) < (q : Int) + 1 := by omega
          have t6 : (0 : Int) ≤ (q : Int) + 1 := by omega
          have t7 : ((q : Int) + 1).toNat = q + 1 := by omega
          have t3 : (q : Int) < (i : Int) := by omega
          have t5 : IntKind.i64.wrap (q : Int) = (q : Int) := by rw [IntKind.wrap_i64]; omega
          cases s
          · go_wp2_with fail
            go_region_held3 (fun w' => w'.cell? ⟨b, o + i * 5, none⟩ = some (.int .i64 x0) ∧ w'.cell? ⟨b, o + i * 5 + 1, none⟩ = some (.int .i64 x1) ∧ w'.cell? ⟨b, o + i * 5 + 2, none⟩ = some (.int .i64 x2) ∧ w'.cell? ⟨b, o + i * 5 + 3, none⟩ = some (.int .i64 x3) ∧ w'.cell? ⟨b, o + i * 5 + 4, none⟩ = some (.bool x4) ∧ w'.cell? ⟨g, q * 5, none⟩ = some (.int .i64 y0) ∧ w'.cell? ⟨g, q * 5 + 1, none⟩ = some (.int .i64 y1) ∧ w'.cell? ⟨g, q * 5 + 2, none⟩ = some (.int .i64 y2) ∧ w'.cell? ⟨g, q * 5 + 3, none⟩ = some (.int .i64 y3) ∧ w'.cell? ⟨g, q * 5 + 4, none⟩ = some (.bool y4)) (go_keep) (first
             | (go_at_call 28; refine (F _).mono ?_; rintro e w2 ⟨rfl, hb2⟩; have f0 := keep lb hb2 e0; have f1 := keep lb hb2 e1; have f2 := keep lb hb2 e2; have f3 := keep lb hb2 e3; have f4 := keep lb hb2 e4; have g0 := keep lg hb2 c0; have g1 := keep lg hb2 c1; have g2 := keep lg hb2 c2; have g3 := keep lg hb2 c3; have g4 := keep lg hb2 c4))
            have BX : Below wr.heap.size wr w2 := (below_drewN _ 1 _).trans (hb2.mono (Nat.le_refl _))
            clear keep F c0 c1 c2 c3 c4 f0 f1 f2 f3 f4 g0 g1 g2 g3 g4 hb2 t6 t7 t5
            generalize w2 = wx at BX ⊢
            have HBB : Hid (Below w.heap.size w wx) := HBB.out.trans (BX.mono HBB.out.size)
            have HRO : Hid (RowL wx (.slice (some ⟨g, 0, none⟩) i cu) i (fun k => L (f k))) := HRO.out.below BX
            have e0 := (BX.cell (p := ⟨b, o + i * 5, none⟩) lb).trans e0
            have e1 := (BX.cell (p := ⟨b, o + i * 5 + 1, none⟩) lb).trans e1
            have e2 := (BX.cell (p := ⟨b, o + i * 5 + 2, none⟩) lb).trans e2
            have e3 := (BX.cell (p := ⟨b, o + i * 5 + 3, none⟩) lb).trans e3
            have e4 := (BX.cell (p := ⟨b, o + i * 5 + 4, none⟩) lb).trans e4
            replace lb := Nat.lt_of_lt_of_le lb BX.size
            clear BX
            have tc : ((q + 1 : Nat) : Int) ≤ (cu : Int) := by omega
            have ti : ((q + 1 : Nat) : Int) ≤ (i : Int) := by omega
            have tic : (i : Int) ≤ (cu : Int) := by omega
            by_cases hfull : cu - (q + 1) = 0
            · have HH : Hid (RowL wx (.slice (some ⟨g, 0, none⟩) (q + 1) cu) (q + 1) (fun k => L (f k)) ∧ True) := ⟨HRO.out.head (by omega), trivial⟩
              go_wp2_with (at_builtin; refine wpList_append_offers rfl _ _ rfl wx.heap.size _ _ [] (q + 1) (fun k => L (f k)) rfl rfl (World.ownsRow_nil _ _ _ _) HH.out.1 (Nat.zero_le _) (by omega) (Nat.le_refl _) ?_)
              intro a1 c1' k1 w1 HG1
              have B1 : Below wx.heap.size wx w1 := (Below.refl _ _).grown HG1.out.2.2 (Nat.le_refl _) (fun k hk => by cases hk)
              have s1 := B1.size
              have d0 := (B1.cell (p := ⟨b, o + i * 5, none⟩) lb).trans e0
              have d1 := (B1.cell (p := ⟨b, o + i * 5 + 1, none⟩) lb).trans e1
              have d2 := (B1.cell (p := ⟨b, o + i * 5 + 2, none⟩) lb).trans e2
              have d3 := (B1.cell (p := ⟨b, o + i * 5 + 3, none⟩) lb).trans e3
              have d4 := (B1.cell (p := ⟨b, o + i * 5 + 4, none⟩) lb).trans e4
              go_wp2_with (at_builtin; refine wpList_append_offers rfl _ _ rfl wx.heap.size _ _ (listO (fun k => L (f k)) (q + 1)) 1 (fun _ => ⟨x0, x1, x2, x3, x4⟩) rfl rfl (own_below HG1.out.2.1 ((Below.refl _ _).alloc (Nat.le_refl _) _)) (rowL_one w1 ⟨x0, x1, x2, x3, x4⟩ _) (by rw [listO_length]; omega) (by omega) (by rw [World.size_alloc]; omega) ?_)
              intro a2 c2' k2 w2 HG2
              have BA : Below wx.heap.size wx (w1.alloc (.cells #[.int .i64 x0, .int .i64 x1, .int .i64 x2, .int .i64 x3, .bool x4] 36)) := B1.alloc s1 _
              have B2 : Below wx.heap.size wx w2 := BA.grown HG2.out.2.2 BA.size (fun k hk => (HG1.out.2.1.lt k hk).1)
              have s2 := B2.size
              clear d0 d1 d2 d3 d4
              go_wp2_with (at_builtin; refine wpList_append_offers rfl _ _ rfl wx.heap.size _ _ (listO (fun k => L (f k)) (q + 1) ++ listO (fun _ => ⟨x0, x1, x2, x3, x4⟩) 1) (i - (q + 1)) (fun k => L (f ((q + 1) + k))) rfl rfl HG2.out.2.1 (⟨_, _, rfl, by omega, fun k hk => absurd hk (by omega)⟩) (by simp only [List.length_append, listO_length]; omega) (by omega) (by omega) ?_)
              intro a3 c3' k3 w3 HG3
              have B3 : Below wx.heap.size wx w3 := B2.grown HG3.out.2.2 s2 (fun k hk => (HG2.out.2.1.lt k hk).1)
              have HO3 : Hid (k3 = i + 1 ∧ w3.ownsRow w.heap.size 36 5 (.slice a3 k3 c3') k3 (allO (listO (fun k => L (rot (q + 1) i (i + 1) f k)) (i + 1))) ∧ Below w.heap.size w w3) := by
                refine ⟨?_, ?_, HBB.out.trans (B3.mono HBB.out.size)⟩
                · have := HG3.out.1; simp [listO_length] at this; omega
                · rw [rot_list (by omega) HFI.out, hx.out]
                  have := own_mono HG3.out.2.1 HBB.out.size
                  simp only [List.append_assoc] at this ⊢
                  exact this
              obtain rfl : k3 = i + 1 := HO3.out.1
              have HRK : Hid (Ranked L (i + 1) (rot (q + 1) i (i + 1) f)) := ranked_more HR.out (by omega) HP.out (.inr (by rw [Nat.add_sub_cancel]; exact HQ.out))
              clear HG1 HG2 HG3
              go_wp2_with fail
              go_roundw
              case rel => exact ⟨i + 1, rot (q + 1) i (i + 1) f, by simp, by omega, ⟨HRK.out, HO3.out.2.1⟩, HO3.out.2.2⟩
              case measure => simp [RowKit.intOf] <;> omega
            · have HH : Hid (RowL wx (.slice (some ⟨g, 0, none⟩) (q + 1) cu) (q + 1) (fun k => L (f k)) ∧ RowL wx (.slice (some ⟨g, (q + 1) * 5, none⟩) (i - (q + 1)) (cu - (q + 1))) (i - (q + 1)) (fun k => L (f ((q + 1) + k)))) := ⟨HRO.out.head (by omega), by have := HRO.out.tail (show q + 1 ≤ i by omega); rw [Nat.zero_add] at this; exact this⟩
              go_wp2_with (at_builtin; refine wpList_append_offers rfl _ _ rfl wx.heap.size _ _ [] (q + 1) (fun k => L (f k)) rfl rfl (World.ownsRow_nil _ _ _ _) HH.out.1 (Nat.zero_le _) (by omega) (Nat.le_refl _) ?_)
              intro a1 c1' k1 w1 HG1
              have B1 : Below wx.heap.size wx w1 := (Below.refl _ _).grown HG1.out.2.2 (Nat.le_refl _) (fun k hk => by cases hk)
              have s1 := B1.size
              have d0 := (B1.cell (p := ⟨b, o + i * 5, none⟩) lb).trans e0
              have d1 := (B1.cell (p := ⟨b, o + i * 5 + 1, none⟩) lb).trans e1
              have d2 := (B1.cell (p := ⟨b, o + i * 5 + 2, none⟩) lb).trans e2
              have d3 := (B1.cell (p := ⟨b, o + i * 5 + 3, none⟩) lb).trans e3
              have d4 := (B1.cell (p := ⟨b, o + i * 5 + 4, none⟩) lb).trans e4
              go_wp2_with (at_builtin; refine wpList_append_offers rfl _ _ rfl wx.heap.size _ _ (listO (fun k => L (f k)) (q + 1)) 1 (fun _ => ⟨x0, x1, x2, x3, x4⟩) rfl rfl (own_below HG1.out.2.1 ((Below.refl _ _).alloc (Nat.le_refl _) _)) (rowL_one w1 ⟨x0, x1, x2, x3, x4⟩ _) (by rw [listO_length]; omega) (by omega) (by rw [World.size_alloc]; omega) ?_)
              intro a2 c2' k2 w2 HG2
              have BA : Below wx.heap.size wx (w1.alloc (.cells #[.int .i64 x0, .int .i64 x1, .int .i64 x2, .int .i64 x3, .bool x4] 36)) := B1.alloc s1 _
              have B2 : Below wx.heap.size wx w2 := BA.grown HG2.out.2.2 BA.size (fun k hk => (HG1.out.2.1.lt k hk).1)
              have s2 := B2.size
              clear d0 d1 d2 d3 d4
              go_wp2_with (at_builtin; refine wpList_append_offers rfl _ _ rfl wx.heap.size _ _ (listO (fun k => L (f k)) (q + 1) ++ listO (fun _ => ⟨x0, x1, x2, x3, x4⟩) 1) (i - (q + 1)) (fun k => L (f ((q + 1) + k))) rfl rfl HG2.out.2.1 (HH.out.2.below B2) (by simp only [List.length_append, listO_length]; omega) (by omega) (by omega) ?_)
              intro a3 c3' k3 w3 HG3
              have B3 : Below wx.heap.size wx w3 := B2.grown HG3.out.2.2 s2 (fun k hk => (HG2.out.2.1.lt k hk).1)
              have HO3 : Hid (k3 = i + 1 ∧ w3.ownsRow w.heap.size 36 5 (.slice a3 k3 c3') k3 (allO (listO (fun k => L (rot (q + 1) i (i + 1) f k)) (i + 1))) ∧ Below w.heap.size w w3) := by
                refine ⟨?_, ?_, HBB.out.trans (B3.mono HBB.out.size)⟩
                · have := HG3.out.1; simp [listO_length] at this; omega
                · rw [rot_list (by omega) HFI.out, hx.out]
                  have := own_mono HG3.out.2.1 HBB.out.size
                  simp only [List.append_assoc] at this ⊢
                  exact this
              obtain rfl : k3 = i + 1 := HO3.out.1
              have HRK : Hid (Ranked L (i + 1) (rot (q + 1) i (i + 1) f)) := ranked_more HR.out (by omega) HP.out (.inr (by rw [Nat.add_sub_cancel]; exact HQ.out))
              clear HG1 HG2 HG3
              go_wp2_with fail
              go_roundw
              case rel => exact ⟨i + 1, rot (q + 1) i (i + 1) f, by simp, by omega, ⟨HRK.out, HO3.out.2.1⟩, HO3.out.2.2⟩
              case measure => simp [RowKit.intOf] <;> omega
          · go_wp2_with fail
            go_region_held3 (fun w' => w'.cell? ⟨b, o + i * 5, none⟩ = some (.int .i64 x0) ∧ w'.cell? ⟨b, o + i * 5 + 1, none⟩ = some (.int .i64 x1) ∧ w'.cell? ⟨b, o + i * 5 + 2, none⟩ = some (.int .i64 x2) ∧ w'.cell? ⟨b, o + i * 5 + 3, none⟩ = some (.int .i64 x3) ∧ w'.cell? ⟨b, o + i * 5 + 4, none⟩ = some (.bool x4) ∧ w'.cell? ⟨g, q * 5, none⟩ = some (.int .i64 y0) ∧ w'.cell? ⟨g, q * 5 + 1, none⟩ = some (.int .i64 y1) ∧ w'.cell? ⟨g, q * 5 + 2, none⟩ = some (.int .i64 y2) ∧ w'.cell? ⟨g, q * 5 + 3, none⟩ = some (.int .i64 y3) ∧ w'.cell? ⟨g, q * 5 + 4, none⟩ = some (.bool y4)) (go_keep) (first
             | (go_at_call 28; refine (F _).mono ?_; rintro e w2 ⟨rfl, hb2⟩; have f0 := keep lb hb2 e0; have f1 := keep lb hb2 e1; have f2 := keep lb hb2 e2; have f3 := keep lb hb2 e3; have f4 := keep lb hb2 e4; have g0 := keep lg hb2 c0; have g1 := keep lg hb2 c1; have g2 := keep lg hb2 c2; have g3 := keep lg hb2 c3; have g4 := keep lg hb2 c4))
            have BX : Below wr.heap.size wr w2 := (below_drewN _ 1 _).trans (hb2.mono (Nat.le_refl _))
            clear keep F c0 c1 c2 c3 c4 f0 f1 f2 f3 f4 g0 g1 g2 g3 g4 hb2 e0 e1 e2 e3 e4
            go_wp2_with fail
            go_roundw
            case rel => exact ⟨q, by first | rfl | simp, by omega, (fun k h1 h2 => by rcases Nat.eq_or_lt_of_le h1 with e | e; subst e; exact HQ.out; exact HP.out k e h2), hB2.trans (BX.mono hB2.size)⟩
            case measure => simp [RowKit.intOf] <;> omega
    · have t : ¬ (i : Int) < (n : Int) := by omega
      obtain rfl : i = n := by omega
      go_wp2_with fail
      go_ret
      exact ⟨_, rfl, f, HI.out.1, HI.out.2, hB⟩
end Go.Proofs.Ytbjibmfehphffaa.RO
