/- Plain facts: the model's ways of resizing, freeing and moving give the same data as the program's. Conditions: as each theorem types them. -/
import Derived.Test.YtafmpllkehbmeaaGreatDoorFsZw
import Derived.Test.YtafmpllkehbmeaaGreatDoorPadTo
namespace Go.Proofs.YtafmpllkehbmeaaGreatDoor.FsZr
open InoV (I okI usedV hasB needV)
open FsV FsX FsY FsZ FsZw
set_option linter.unusedVariables false

/-- The last blocks, from L down, are filled with zeros. -/
def cutZ (bs : List Int) : Nat → Nat → List ByteArray → List ByteArray
  | 0, _, d => d
  | m + 1, L, d => cutZ bs m (L - 1) (if bs.getD (L - 1) 0 = -1 then d else d.set (bs.getD (L - 1) 0).toNat z32)
theorem cutZ_len (bs : List Int) : ∀ m L d, (cutZ bs m L d).length = d.length := by
  intro m
  induction m with
  | zero => intro L d; rfl
  | succ m ih => intro L d; rw [cutZ, ih]; split <;> simp
theorem cutZ_get (bs : List Int) (hb : Inr bs) : ∀ m L (d : List ByteArray), m ≤ L → L ≤ bs.length → d.length = 56 → ∀ j : Nat, (cutZ bs m L d).getD j e0 = if (j : Int) ∈ (bs.take L).drop (L - m) then z32 else d.getD j e0 := by
  intro m
  induction m with
  | zero => intro L d _ hL _ j; rw [cutZ, Nat.sub_zero, List.drop_eq_nil_of_le (by rw [List.length_take]; omega), if_neg (by simp)]
  | succ m ih =>
    intro L d hm hL hd j
    have hlt : L - 1 < bs.length := by omega
    have hi := hb _ (List.getElem_mem hlt)
    rw [cutZ, getD_at hlt, ih (L - 1) _ (by omega) (by omega) (by split <;> simp [hd]) j, show L - 1 - m = L - (m + 1) from by omega]
    have e : (bs.take L).drop (L - (m + 1)) = (bs.take (L - 1)).drop (L - (m + 1)) ++ [bs[L - 1]] := by
      conv => lhs; rw [show L = L - 1 + 1 from by omega, List.take_succ_eq_append_getElem hlt]
      rw [List.drop_append_of_le_length (by rw [List.length_take]; omega)]
      congr 2
      omega
    rw [e]
    by_cases h1 : (j : Int) ∈ (bs.take (L - 1)).drop (L - (m + 1))
    · rw [if_pos h1, if_pos (by simp [h1])]
    · rw [if_neg h1]
      by_cases h2 : bs[L - 1] = -1
      · rw [if_pos h2, if_neg (by simp [h1]; omega)]
      · rw [if_neg h2, getD_set _ _ _ _ _ (by omega)]
        by_cases h3 : bs[L - 1].toNat = j
        · rw [if_pos h3, if_pos (by simp; right; omega)]
        · rw [if_neg h3, if_neg (by simp [h1]; omega)]
/-- The last block's bytes beyond z are zeros. -/
def padS (s : ByteArray) (x : Nat) : ByteArray := PadTo.padB (s.extract 0 x) 32
theorem padS_data {s : ByteArray} {x : Nat} (h : s.size = 32) (hx : x ≤ 32) : (padS s x).data.toList = s.data.toList.take x ++ Z (32 - x) := by
  have h1 : (s.extract 0 x).data.toList = s.data.toList.take x := by
    rw [ByteArray.data_extract, Array.toList_extract, List.extract_eq_take_drop]; simp
  have h2 : (s.extract 0 x).size = x := by
    have : (s.extract 0 x).data.toList.length = x := by
      rw [h1, List.length_take]
      have : s.data.toList.length = 32 := by simpa using h
      omega
    simpa using this
  rw [padS, PadTo.padB_at _ _ (32 - x) (by decide) (by rw [h2]; rfl)]
  show PadTo.zend _ _ = _
  rw [PadTo.zend, h1]; rfl
def resD (d : List ByteArray) (n : I) (z : Int) : List ByteArray :=
  if z < n.size ∧ 0 < z % 32 ∧ n.blocks.getD ((needV z).toNat - 1) 0 ≠ -1 then
    (cutZ n.blocks (n.blocks.length - (needV z).toNat) n.blocks.length d).set (n.blocks.getD ((needV z).toNat - 1) 0).toNat (padS (dat (cutZ n.blocks (n.blocks.length - (needV z).toNat) n.blocks.length d) (n.blocks.getD ((needV z).toNat - 1) 0)) (z % 32).toNat)
  else cutZ n.blocks (n.blocks.length - (needV z).toNat) n.blocks.length d
theorem mem_drop {bs : List Int} {m : Nat} {x : Int} (h : x ∈ bs.drop m) : ∃ t, ∃ h : t < bs.length, m ≤ t ∧ bs[t] = x := by
  obtain ⟨t, ht, e⟩ := List.mem_iff_getElem.1 h
  rw [List.length_drop] at ht
  exact ⟨m + t, by omega, by omega, by rw [← e, List.getElem_drop]⟩
theorem drop_mem {bs : List Int} {m t : Nat} (h : t < bs.length) (hm : m ≤ t) : bs[t] ∈ bs.drop m := by
  rw [List.mem_iff_getElem]
  exact ⟨t - m, by rw [List.length_drop]; omega, by simp [show m + (t - m) = t from by omega]⟩
theorem get_Z (m j : Nat) : (Z m)[j]? = if j < m then some 0 else none := by
  rw [Z, List.getElem?_replicate]
/-- The content beyond the size is zeros. -/
theorem beyond_zero {f : F} {i : Nat} (g : GoodF f i) {j : Nat} (h1 : (ino f i).size ≤ j) (h2 : j < 256) : (content f.data (ino f i).blocks)[j]? = some 0 := by
  have hsz := g.size
  have e : j = 32 * (j / 32) + j % 32 := by omega
  rw [e, content_at g.dsz g.dlen g.inr hsz.2.2.2 (j / 32) (by omega) (j % 32) (by omega)]
  by_cases hh : (ino f i).blocks.getD (j / 32) (-1) = -1
  · rw [hh, one, if_pos rfl, get_Z, if_pos (by omega)]
  · obtain ⟨hlt, eb⟩ := getD_hit hh
    have hneed : j / 32 + 1 = (ino f i).blocks.length := by
      have h3 := hsz.2.2.1
      unfold needV at h3
      split at h3
      · omega
      · omega
    have hz := ((else_iff f).1 (ok_parts g.ok).2.2.2.2).2 _ g.mem
    unfold beyond at hz
    have hgd : (ino f i).blocks.getD ((ino f i).blocks.length - 1) 0 = (ino f i).blocks.getD (j / 32) (-1) := by
      rw [show (ino f i).blocks.length - 1 = j / 32 from by omega, getD_at hlt, eb]
    rw [if_neg (by omega), hgd, if_neg hh] at hz
    have hs := g.dsz (dat f.data ((ino f i).blocks.getD (j / 32) (-1))) (mem_getD (by
      have := (own_facts g.ok).2 _ (g.used (used_at hh))
      rw [g.dlen]; omega))
    rw [one, if_neg hh]
    have hlen : (dat f.data ((ino f i).blocks.getD (j / 32) (-1))).data.toList.length = 32 := by simpa using hs
    unfold zB at hz
    rw [List.all_eq_true] at hz
    have hm : (dat f.data ((ino f i).blocks.getD (j / 32) (-1))).data.toList[j % 32]'(by omega) ∈ ((dat f.data ((ino f i).blocks.getD (j / 32) (-1))).extract ((ino f i).size - (((ino f i).blocks.length : Int) - 1) * 32).toNat 32).data.toList := by
      rw [ByteArray.data_extract, Array.toList_extract, List.extract_eq_take_drop, List.mem_iff_getElem]
      refine ⟨j % 32 - ((ino f i).size - (((ino f i).blocks.length : Int) - 1) * 32).toNat, ?_, ?_⟩
      · rw [List.length_take, List.length_drop, hlen]; omega
      · rw [List.getElem_take, List.getElem_drop]
        congr 1
        omega
    have := hz _ hm
    rw [List.getElem?_eq_getElem (by omega)]
    simpa using this
theorem take_Z_at {c : List UInt8} {z j : Nat} (hc : c.length = 256) (hz : z ≤ 256) (hj : j < 256) : (c.take z ++ Z (256 - z))[j]? = if j < z then c[j]? else some 0 := by
  have h1 : (c.take z).length = z := by rw [List.length_take]; omega
  by_cases h : j < z
  · rw [if_pos h, List.getElem?_append_left (by omega), List.getElem?_take, if_pos h]
  · rw [if_neg h, List.getElem?_append_right (by omega), get_Z, if_pos (by omega)]
theorem holes_getD {bs : List Int} {m t : Nat} (h : t < m) (h' : t < (holes bs m).length) : (holes bs m)[t] = bs.getD t (-1) := by
  have := holes_at bs m t h
  rw [List.getElem?_eq_getElem h'] at this
  simpa using this
theorem holes_inr {bs : List Int} {m : Nat} (h : Inr bs) : Inr (holes bs m) := fun b hb => by
  obtain ⟨t, ht, rfl⟩ := List.mem_iff_getElem.1 hb
  rw [holes_getD (by rw [holes_len] at ht; exact ht)]
  by_cases e : bs.getD t (-1) = -1
  · exact .inl e
  · obtain ⟨h', e2⟩ := getD_hit e
    rw [← e2]; exact h _ (List.getElem_mem h')
theorem holes_dis {bs : List Int} {m : Nat} (h : Dis bs) : Dis (holes bs m) := by
  rw [dis_iff]
  intro t t' ht ht' hlt hne e
  rw [holes_len] at ht ht'
  rw [holes_getD ht] at hne e
  rw [holes_getD ht'] at e
  obtain ⟨q, qe⟩ := getD_hit hne
  rw [e] at hne
  obtain ⟨q', qe'⟩ := getD_hit hne
  exact dis_iff.1 h t t' q q' hlt (by rw [qe, e]; exact hne) (by rw [qe, qe', e])
theorem res_eq {f : F} {i : Nat} {z : Int} (g : GoodF f i) (h0 : 0 ≤ z) (hm : z ≤ 256) :
    putD ((content f.data (ino f i).blocks).take z.toNat ++ Z (256 - z.toNat)) 0 (sized (ino f i) z).blocks (zeroD f.data (usedV (ino f i).blocks)) = resD f.data (ino f i) z := by
  have hsz := g.size
  have hdl := g.dlen
  have hclen := content_len g.dsz hdl g.inr hsz.2.2.2
  have hzlen : (zeroD f.data (usedV (ino f i).blocks)).length = 56 := by rw [zeroD_len]; exact hdl
  have hnd := need_nn z
  have hn8 : needV z ≤ 8 := by have := need_mono hm; have h8 : needV 256 = 8 := rfl; omega
  have hnz : ((needV z).toNat = 0 ∧ z = 0) ∨ (1 ≤ (needV z).toNat ∧ 32 * ((needV z).toNat - 1) < z ∧ z ≤ 32 * (needV z).toNat) := by
    unfold needV; split <;> omega
  obtain ⟨K, hK⟩ : ∃ K, K = (needV z).toNat := ⟨_, rfl⟩
  rw [← hK] at hnz
  have hB : (sized (ino f i) z).blocks = holes (ino f i).blocks K := by rw [hK]; rfl
  rw [hB]
  obtain ⟨bs, hbs⟩ : ∃ bs, bs = (ino f i).blocks := ⟨_, rfl⟩
  have hinr := g.inr
  have hdis := g.dis
  have hown : ∀ b ∈ usedV bs, 0 ≤ b ∧ b ≤ 55 := fun b hb => (own_facts g.ok).2 b (g.used (by rw [← hbs]; exact hb))
  have hC := fun t ht j hj => content_at (t := t) (j := j) g.dsz hdl g.inr hsz.2.2.2 ht hj
  have hbz := fun j h1 h2 => beyond_zero (j := j) g h1 h2
  rw [← hbs] at hinr hdis hC hclen hzlen hsz hbz ⊢
  have hcut : ∀ j : Nat, (cutZ bs (bs.length - K) bs.length f.data).getD j e0 = if (j : Int) ∈ bs.drop K then z32 else f.data.getD j e0 := fun j => by
    rw [cutZ_get bs hinr _ _ _ (by omega) (Nat.le_refl _) hdl j, List.take_length]
    by_cases hk : K ≤ bs.length
    · rw [show bs.length - (bs.length - K) = K from by omega]
    · rw [show bs.length - (bs.length - K) = bs.length from by omega, List.drop_eq_nil_of_le (Nat.le_refl _), List.drop_eq_nil_of_le (by omega)]
  have hcl : (cutZ bs (bs.length - K) bs.length f.data).length = 56 := by rw [cutZ_len]; exact hdl
  have hRlen : (resD f.data (ino f i) z).length = 56 := by
    unfold resD; rw [← hbs, ← hK]; split <;> simp [hcl]
  refine ext_getD (by rw [putD_len, hzlen, hRlen]) fun j hj => ?_
  rw [putD_len, hzlen] at hj
  have hR : (resD f.data (ino f i) z).getD j e0 = if z < (ino f i).size ∧ 0 < z % 32 ∧ bs.getD (K - 1) 0 ≠ -1 ∧ (bs.getD (K - 1) 0).toNat = j then padS ((cutZ bs (bs.length - K) bs.length f.data).getD j e0) (z % 32).toNat else (cutZ bs (bs.length - K) bs.length f.data).getD j e0 := by
    unfold resD
    rw [← hbs, ← hK]
    by_cases c : z < (ino f i).size ∧ 0 < z % 32 ∧ bs.getD (K - 1) 0 ≠ -1
    · have hKl : K - 1 < bs.length := by
        have h3 := need_mono (show z ≤ (ino f i).size by omega)
        have h4 := hsz.2.2.1
        omega
      have hi := hinr _ (List.getElem_mem hKl)
      rw [if_pos c, getD_set _ _ _ _ _ (by rw [hcl]; rw [getD_at hKl] at c ⊢; omega)]
      by_cases e : (bs.getD (K - 1) 0).toNat = j
      · rw [if_pos e, if_pos ⟨c.1, c.2.1, c.2.2, e⟩, dat, e]
      · rw [if_neg e, if_neg (fun h => e h.2.2.2)]
    · rw [if_neg c, if_neg (fun h => c ⟨h.1, h.2.1, h.2.2.1⟩)]
  rw [hR, hcut j]
  by_cases hjB : (j : Int) ∈ holes bs K
  · obtain ⟨t, ht, e⟩ := List.mem_iff_getElem.1 hjB
    rw [putD_in _ _ 0 _ (holes_inr hinr) (holes_dis hdis) hzlen t j (by rw [List.getElem?_eq_getElem ht, e]), Nat.zero_add]
    rw [holes_len] at ht
    rw [holes_getD ht] at e
    obtain ⟨hlt, e2⟩ := getD_hit (bs := bs) (t := t) (by omega)
    have hbt : bs[t] = (j : Int) := by rw [e2, e]
    have hnd : (j : Int) ∉ bs.drop K := fun hh => by
      obtain ⟨t', ht', hle, e'⟩ := mem_drop hh
      exact dis_iff.1 hdis t t' hlt ht' (by omega) (by omega) (by rw [hbt, e'])
    rw [if_neg hnd]
    have hs32 : (f.data.getD j e0).size = 32 := g.dsz _ (mem_getD (by omega))
    have hl32 : (f.data.getD j e0).data.toList.length = 32 := by simpa using hs32
    have hCt : ∀ x, x < 32 → (content f.data bs)[32 * t + x]? = (f.data.getD j e0).data.toList[x]? := fun x hx => by
      rw [hC t (by omega) x hx, e, one, if_neg (by omega)]; rfl
    have hlast : ∀ h : K - 1 = t, bs.getD (K - 1) 0 = (j : Int) := fun h => by rw [h, getD_at hlt, hbt]
    by_cases c : z < (ino f i).size ∧ 0 < z % 32 ∧ bs.getD (K - 1) 0 ≠ -1 ∧ (bs.getD (K - 1) 0).toNat = j
    · rw [if_pos c]
      obtain ⟨c1, c2, c3, c4⟩ := c
      have htK : K - 1 = t := by
        have hKl : K - 1 < bs.length := by
          have h3 := need_mono (show z ≤ (ino f i).size by omega)
          have h4 := hsz.2.2.1
          omega
        rw [getD_at hKl] at c3 c4
        have hi := hinr _ (List.getElem_mem hKl)
        have e5 : bs[K - 1] = (j : Int) := by omega
        rcases Nat.lt_trichotomy (K - 1) t with q | q | q
        · exact absurd (by rw [e5, hbt]) (dis_iff.1 hdis _ _ hKl hlt q (by omega))
        · exact q
        · exact absurd (by rw [e5, hbt]) (dis_iff.1 hdis _ _ hlt hKl q (by omega))
      have hpd := padS_data hs32 (x := (z % 32).toNat) (by omega)
      refine blk_ext ?_ fun x hx => ?_
      · have : (padS (f.data.getD j e0) (z % 32).toNat).data.toList.length = 32 := by
          rw [hpd, List.length_append, List.length_take, hl32, Z_len]; omega
        simpa using this
      · rw [take_Z_at hclen (by omega) (by omega), hpd]
        have hq : z.toNat = 32 * t + (z % 32).toNat := by omega
        by_cases cx : x < (z % 32).toNat
        · rw [if_pos (by omega), hCt x hx, List.getElem?_append_left (by rw [List.length_take]; omega), List.getElem?_take, if_pos cx]
        · rw [if_neg (by omega), List.getElem?_append_right (by rw [List.length_take]; omega), get_Z, if_pos (by rw [List.length_take]; omega)]
    · rw [if_neg c]
      refine blk_ext hs32 fun x hx => ?_
      rw [take_Z_at hclen (by omega) (by omega)]
      by_cases cx : 32 * t + x < z.toNat
      · rw [if_pos cx, hCt x hx]
      · rw [if_neg cx, ← hCt x hx]
        have htK : K - 1 = t := by omega
        have hj0 := hlast htK
        have hc2 : ¬ (z < (ino f i).size ∧ 0 < z % 32) := fun h => c ⟨h.1, h.2, by rw [hj0]; omega, by rw [hj0]; rfl⟩
        exact (hbz (32 * t + x) (by omega) (by omega)).symm
  · have hjn : ¬ (z < (ino f i).size ∧ 0 < z % 32 ∧ bs.getD (K - 1) 0 ≠ -1 ∧ (bs.getD (K - 1) 0).toNat = j) := fun ⟨c1, c2, c3, c4⟩ => by
      have hKl : K - 1 < bs.length := by
        have h3 := need_mono (show z ≤ (ino f i).size by omega)
        have h4 := hsz.2.2.1
        omega
      have hi := hinr _ (List.getElem_mem hKl)
      rw [getD_at hKl] at c3 c4
      refine hjB ?_
      rw [List.mem_iff_getElem]
      refine ⟨K - 1, by rw [holes_len]; omega, ?_⟩
      rw [holes_getD (by omega), getD_m, dif_pos hKl]; omega
    rw [putD_out _ _ 0 _ (holes_inr hinr) hzlen j hjB, zeroD_get _ _ hown hdl, if_neg hjn]
    by_cases hd : (j : Int) ∈ bs.drop K
    · rw [if_pos hd, if_pos (by rw [usedV, List.mem_filter]; exact ⟨List.mem_of_mem_drop hd, by simp⟩)]
    · rw [if_neg hd, if_neg]
      intro hu
      obtain ⟨t, ht, e⟩ := List.mem_iff_getElem.1 (List.mem_filter.1 hu).1
      rcases Nat.lt_or_ge t K with q | q
      · refine hjB ?_
        rw [List.mem_iff_getElem]
        exact ⟨t, by rw [holes_len]; exact q, by rw [holes_getD q, getD_m, dif_pos ht, e]⟩
      · exact hd (by rw [← e]; exact drop_mem ht q)
/-! Moving. -/
end Go.Proofs.YtafmpllkehbmeaaGreatDoor.FsZr
