/- texts put together: FlowG, MdMat, MdSer, MdChs. -/
import Derived.Test.YtnbdcnbhejfdhaaGreatLv00
import Derived.Test.YtnbdcnbhejfdhaaGreatLv01
import Derived.Test.YtnbdcnbhejfdhaaGreatLv02
import Derived.Test.YtnbdcnbhejfdhaaGreatLv03
import Derived.Test.YtnbdcnbhejfdhaaGreatLv04
import Derived.Test.YtnbdcnbhejfdhaaGreatLv05
import Derived.Test.YtnbdcnbhejfdhaaGreatLv06
import Derived.Test.YtnbdcnbhejfdhaaGreatLv07
import Derived.Test.YtnbdcnbhejfdhaaGreatLv08
import Derived.Test.YtnbdcnbhejfdhaaGreatLv09
import Derived.Test.YtnbdcnbhejfdhaaGreatLv10
import Derived.Test.YtnbdcnbhejfdhaaGreatLv11
import Derived.Test.YtnbdcnbhejfdhaaGreatMo00
namespace Go
section
variable {P : Program} {ops : Array Oper} {Q : Exit → Act → World → Prop}
theorem flow_goG {fill : (Nat → Value) → Act} {die : Nat → Nat} {R : World → Prop} {T : Nat → World → World → Prop} {G : Nat → World → Prop} {F : Nat → Value → World → Prop} {P2 : Nat → Nat → Value → Value → Prop} {n : Nat} (hB : flowB ops n = true)
  (hst : ∀ k i v w w', k < n → i < n → k ≠ i → die k ≠ i → (flowAnc ops k).contains i = false → (flowAnc ops i).contains (die k) = false → F k v w → T i w w' → F k v w') (hR : ∀ i w w', R w → T i w w' → R w') (hG : ∀ s i w w', s < n → i < n → s ≠ i → (flowAnc ops i).contains s = false → R w → G s w → T i w w' → G s w')
  (hput : ∀ i o, i < n → ops[i]? = some o → ∀ x v, (fill x).put o.dst v = fill (upd x i v))
  (hstep : ∀ i o, i < n → ops[i]? = some o → FlowStepG P ops Q fill n die R T G F P2 i o)
  (hend : ∀ x w, R w → (∀ k, k < n → n ≤ die k → F k (x k) w) → (∀ j k, j < n → k < n → n ≤ die j → n ≤ die k → j ≠ k → P2 j k (x j) (x k)) → wpList P ops Q (ops.toList.drop n) (fill x) w) :
  ∀ (f : Nat) (L : List Nat) (listed : Array Bool) (x : Nat → Value) (w : World), L.Nodup → L.length = f → (∀ j, j ∈ L ↔ j < n ∧ listed.getD j false = false) → HeadInv .any ops n listed →
   R w → (∀ s, s < n → listed.getD s false = false → G s w) → (∀ k, k < n → listed.getD k false = true → listed.getD (die k) false = false → F k (x k) w) → (∀ j k, j < n → k < n → j ≠ k → listed.getD j false = true → listed.getD k false = true → listed.getD (die j) false = false → listed.getD (die k) false = false → P2 j k (x j) (x k)) → wpAny P .any ops Q (f + (ops.size - n)) listed (fill x) w := by
 obtain ⟨hn, hback, hseq, htail⟩ := flowB_spec hB
 intro f
 induction f with
 | zero =>
  intro L listed x w _ hlen hL inv hw _ hF hP
  obtain rfl : L = [] := List.eq_nil_of_length_eq_zero hlen
  have hall : ∀ j, j < n → listed.getD j false = true := fun j hj => by
   cases h : listed.getD j false with
   | true => rfl
   | false => exact absurd ((hL j).2 ⟨hj, h⟩) (by simp)
  have he := flow_eq inv.size hall inv.tail
  have far : ∀ {j : Nat}, n ≤ j → listed.getD j false = false := fun {j} hj => by
   rcases Nat.lt_or_ge j ops.size with h | h
   ·
    exact getD_both (inv.tail j hj h)
   ·
    have : listed.size ≤ j := by rw [inv.size]; exact h
    simp [this]
  have hlen2 : (ops.toList.drop n).length = ops.size - n := by simp
  have := wpAny_of_seq (md := .any) (P := P) (ops := ops) (Q' := Q) (ops.toList.drop n) n listed (fill x) w (fun j => by simp [List.getElem?_drop]) (by rw [he, hlen2]; exact hseq) (hend x w hw (fun k hk hd => hF k hk (hall k hk) (far hd)) (fun j k hj hk hdj hdk hne => hP j k hj hk hne (hall j hj) (hall k hk) (far hdj) (far hdk)))
  rw [hlen2] at this
  rw [Nat.zero_add]; exact this
 | succ f ih =>
  intro L listed x w hnd hlen hL inv hw hGl hF hP
  obtain ⟨i0, hi0⟩ : ∃ i0, i0 ∈ L := by
   cases L with
   | nil => simp at hlen
   | cons a r => exact ⟨a, List.mem_cons_self⟩
  obtain ⟨hi0n, hi0l⟩ := (hL i0).1 hi0
  rw [show f + 1 + (ops.size - n) = (f + (ops.size - n)) + 1 by omega]
  refine ⟨fun h0 => ?_, fun i hi => ?_⟩
  ·
   obtain ⟨j, _, hj⟩ := flow_ready hback inv hn i0 hi0n hi0l
   rw [h0] at hj; cases hj
  ·
   have hin : i < n := by
    rcases Nat.lt_or_ge i n with h | h
    ·
     exact h
    ·
     exact absurd hi (htail listed inv i0 hi0n (getD_in (by rw [inv.size]; omega) hi0l) i h)
   obtain ⟨hiun, oi, hoi, hall⟩ := mem_ready.1 hi
   have hif := getD_both hiun
   have hsz : i < listed.size := by rw [inv.size]; omega
   have hmem : i ∈ L := (hL i).2 ⟨hin, hif⟩
   have alive : ∀ {d : Nat}, (listed.setIfInBounds i true).getD d false = false → d ≠ i ∧ listed.getD d false = false := fun {d} h => by
    have hne : d ≠ i := fun e => by
     rw [e, show (listed.setIfInBounds i true).getD i false = true by simp [hsz]] at h
     cases h
    exact ⟨hne, by rwa [getD_set_ne false (fun e => hne e.symm)] at h⟩
   have hanc : ∀ k, listed.getD k false = true → (flowAnc ops k).contains i = false := fun k hk => by
    cases hc : (flowAnc ops k).contains i with
    | false => rfl
    | true =>
     have hD : ∀ j, listed.getD j false = true → ∀ e ∈ flowPred ops j, listed.getD e false = true := fun j hj e he => by
      unfold flowPred at he
      cases hoj : ops[j]? with
      | none => rw [hoj] at he; simp at he
      | some oj =>
       rw [hoj] at he
       simp only [Option.map_some, Option.getD_some, List.mem_map, List.mem_filter] at he
       obtain ⟨ed, ⟨h1, h2⟩, rfl⟩ := he
       exact inv.closed j oj hoj hj ed (by simpa using h1) h2
     have := anc_fold hD ((List.range k).reverse) (flowPred ops k) (hD k hk) i (by simpa [flowAnc] using hc)
     rw [hif] at this
     cases this
   have hdanc : ∀ d, listed.getD d false = false → (flowAnc ops i).contains d = false := fun d hd => by
    cases hc : (flowAnc ops i).contains d with
    | false => rfl
    | true =>
     have hD : ∀ j, listed.getD j false = true → ∀ e ∈ flowPred ops j, listed.getD e false = true := fun j hj e he => by
      unfold flowPred at he
      cases hoj : ops[j]? with
      | none => rw [hoj] at he; simp at he
      | some oj =>
       rw [hoj] at he
       simp only [Option.map_some, Option.getD_some, List.mem_map, List.mem_filter] at he
       obtain ⟨ed, ⟨h1, h2⟩, rfl⟩ := he
       exact inv.closed j oj hoj hj ed (by simpa using h1) h2
     have h0 : ∀ e ∈ flowPred ops i, listed.getD e false = true := fun e he => by
      unfold flowPred at he
      rw [hoi] at he
      simp only [Option.map_some, Option.getD_some, List.mem_map, List.mem_filter] at he
      obtain ⟨ed, ⟨h1, h2⟩, rfl⟩ := he
      exact hall ed (by simpa using h1) h2
     have := anc_fold hD ((List.range i).reverse) (flowPred ops i) h0 d (by simpa [flowAnc] using hc)
     rw [hd] at this
     cases this
   have key : ∀ v w', T i w w' → F i v w' → (∀ j u, F j u w → P2 i j v u ∧ P2 j i u v) → wpAny P .any ops Q (f + (ops.size - n)) (listed.setIfInBounds i true) ((fill x).put oi.dst v) w' := by
    intro v w' hT hv hp
    rw [hput i oi hin hoi x v]
    refine ih (L.erase i) _ _ w' (hnd.erase i) (by rw [List.length_erase_of_mem hmem]; omega) (fun j => ?_) (inv.set hi hin) (hR i w w' hw hT) (fun s hs hl => hG s i w w' hs hin (alive hl).1 (hdanc s (alive hl).2) hw (hGl s hs (alive hl).2) hT) (fun k hk hl hl' => ?_) (fun j k hj hk hne hl1 hl2 hl1' hl2' => ?_)
    ·
     rw [hnd.mem_erase_iff, hL j]
     by_cases hij : j = i
     ·
      subst hij
      constructor
      ·
       rintro ⟨h, _⟩; exact absurd rfl h
      ·
       rintro ⟨_, h⟩
       rw [show (listed.setIfInBounds j true).getD j false = true by simp [hsz]] at h
       cases h
     ·
      rw [getD_set_ne false (fun e => hij e.symm)]
      exact ⟨fun h => h.2, fun h => ⟨hij, h⟩⟩
    ·
     unfold upd
     by_cases hki : k = i
     ·
      rw [if_pos hki, hki]; exact hv
     ·
      rw [if_neg hki]
      rw [getD_set_ne false (fun e => hki e.symm)] at hl
      exact hst k i _ w w' hk hin hki (alive hl').1 (hanc k hl) (hdanc _ (alive hl').2) (hF k hk hl (alive hl').2) hT
    ·
     unfold upd
     by_cases hji : j = i
     ·
      have hki : k ≠ i := fun e => hne (hji.trans e.symm)
      rw [if_pos hji, if_neg hki, hji]
      rw [getD_set_ne false (fun e => hki e.symm)] at hl2
      exact (hp k _ (hF k hk hl2 (alive hl2').2)).1
     ·
      rw [if_neg hji]
      rw [getD_set_ne false (fun e => hji e.symm)] at hl1
      by_cases hki : k = i
      ·
       rw [if_pos hki, hki]
       exact (hp j _ (hF j hj hl1 (alive hl1').2)).2
      ·
       rw [if_neg hki]
       rw [getD_set_ne false (fun e => hki e.symm)] at hl2
       exact hP j k hj hk hne hl1 hl2 (alive hl1').2 (alive hl2').2
   have hs1 := hstep i oi hin hoi x w hw (fun s hs hc => hGl s hs (by
    rcases Nat.decEq s i with hne | he
    ·
     have hc2 : (flowAnc ops s).contains i = true := by
      have h9 : (s == i) = false := by simpa using hne
      rwa [h9, Bool.false_or] at hc
     cases hl : listed.getD s false with
     | false => rfl
     | true => rw [hanc s hl] at hc2; cases hc2
    ·
     rw [he]; exact hif)) (fun j hj => by
    simp only [flowPred, hoi, Option.map_some, Option.getD_some, List.contains_eq_mem, List.mem_map, List.mem_filter, decide_eq_true_eq, Bool.and_eq_true, Bool.or_eq_true, beq_iff_eq] at hj
    obtain ⟨⟨e, ⟨he, hb⟩, rfl⟩, hdj⟩ := hj
    have hal : listed.getD (die e.on) false = false := by
     rcases hdj with h | h
     ·
      rw [h]; exact hif
     ·
      rcases Nat.lt_or_ge (die e.on) ops.size with h' | h'
      ·
       exact getD_both (inv.tail _ h h')
      ·
       have : listed.size ≤ die e.on := by rw [inv.size]; exact h'
       simp [this]
    have h1 : e.on < i := by
     have h1 := List.all_eq_true.1 hback i (List.mem_range.2 (by omega))
     simp only [hoi, Option.map_some, Option.getD_some] at h1
     have h2 := Array.all_eq_true_iff_forall_mem.1 h1 e (by simpa using he)
     simpa only [hb, Bool.not_true, Bool.false_or, decide_eq_true_eq] using h2
    exact hF e.on (by omega) (hall e (by simpa using he) hb) hal) (fun a' w' => wpAny P .any ops Q (f + (ops.size - n)) (listed.setIfInBounds i true) a' w') key
   unfold wpOp
   simp only [hoi]
   split
   ·
    rename_i hwt
    rw [if_pos hwt] at hs1
    exact Or.inl hs1
   ·
    rename_i hwt
    rw [if_neg hwt] at hs1
    exact hs1
theorem wp_region_flowG {id : Nat} {a : Act} {w : World} {l : List Oper} (n : Nat) (die : Nat → Nat) (fill : (Nat → Value) → Act) (x0 : Nat → Value) (R : World → Prop) (T : Nat → World → World → Prop) (G : Nat → World → Prop) (F : Nat → Value → World → Prop) (P2 : Nat → Nat → Value → Value → Prop)
  (hm : P.follows .mixedOrders = true) (hB : flowB l.toArray n = true) (ha : a = fill x0) (h0 : R w.drew) (hG0 : ∀ s, s < n → G s w.drew)
  (hR : ∀ i w w', R w → T i w w' → R w') (hG : ∀ s i w w', s < n → i < n → s ≠ i → (flowAnc l.toArray i).contains s = false → R w → G s w → T i w w' → G s w') (hst : ∀ k, k < n → ∀ i, i < n → k ≠ i → die k ≠ i → (flowAnc l.toArray k).contains i = false → (flowAnc l.toArray i).contains (die k) = false → ∀ v w w', F k v w → T i w w' → F k v w')
  (hput : ∀ i, i < n → ∀ o, l[i]? = some o → ∀ x v, (fill x).put o.dst v = fill (upd x i v))
  (hstep : ∀ i, i < n → ∀ o, l[i]? = some o → FlowStepG P l.toArray Q fill n die R T G F P2 i o)
  (hend : ∀ x w, R w → (∀ k, k < n → n ≤ die k → F k (x k) w) → (∀ j k, j < n → k < n → n ≤ die j → n ≤ die k → j ≠ k → P2 j k (x j) (x k)) → wpList P l.toArray Q (l.drop n) (fill x) w) : (Code.region id l.toArray true).wp P Q a w := by
 have hn : n ≤ l.toArray.size := (flowB_spec hB).1
 refine wp_region_any hm ?_
 rw [ha]
 have := flow_goG (P := P) (Q := Q) (ops := l.toArray) hB (fun k i v w w' hk hi hne hd ha hb => hst k hk i hi hne hd ha hb v w w') hR hG (fun i o hi ho => hput i hi o (by simpa using ho)) (fun i o hi ho => hstep i hi o (by simpa using ho)) (fun x w hw hF hP => by simpa using hend x w hw hF hP)
  n (List.range n) (Array.replicate l.toArray.size false) x0 w.drew List.nodup_range (by simp) (fun j => by rw [List.mem_range, getD_replicate_false]; simp)
  ⟨by simp, fun j oj _ hl => (by rw [getD_replicate_false] at hl; cases hl), fun t _ ht => getD_in (by simpa using ht) (getD_replicate_false _ _)⟩ h0 (fun s hs _ => hG0 s hs) (fun k _ hl _ => by rw [getD_replicate_false] at hl; cases hl) (fun _ _ _ _ _ hl _ _ _ => by rw [getD_replicate_false] at hl; cases hl)
 rw [show n + (l.toArray.size - n) = l.toArray.size by omega] at this
 exact this
theorem wp_flowG {id : Nat} {a : Act} {w : World} {l : List Oper} (n : Nat) (die : Nat → Nat) (R : World → Prop) (T : Nat → World → World → Prop) (G : Nat → World → Prop) (F : Nat → Value → World → Prop) (P2 : Nat → Nat → Value → Value → Prop)
  (hm : P.follows .mixedOrders = true) (hB : (flowB l.toArray n && apartB (l.take n)) = true) (h0 : R w.drew) (hG0 : ∀ s, s < n → G s w.drew)
  (hR : ∀ i w w', R w → T i w w' → R w') (hG : ∀ s, s < n → ∀ i, i < n → s ≠ i → (flowAnc l.toArray i).contains s = false → ∀ w w', R w → G s w → T i w w' → G s w') (hst : ∀ k, k < n → ∀ i, i < n → k ≠ i → die k ≠ i → (flowAnc l.toArray k).contains i = false → (flowAnc l.toArray i).contains (die k) = false → ∀ v w w', F k v w → T i w w' → F k v w')
  (hstep : FlowAllG P l.toArray Q (fillOf a (l.take n) 0) n die R T G F P2 0 (l.take n))
  (hend : ∀ x w, R w → (∀ k, k < n → n ≤ die k → F k (x k) w) → (∀ j k, j < n → k < n → n ≤ die j → n ≤ die k → j ≠ k → P2 j k (x j) (x k)) → wpList P l.toArray Q (l.drop n) (fillOf a (l.take n) 0 x) w) : (Code.region id l.toArray true).wp P Q a w := by
 simp only [Bool.and_eq_true] at hB
 obtain ⟨x0, hx0⟩ := fill_start (l.take n) 0 a hB.2
 have hget : ∀ i o, i < n → l[i]? = some o → (l.take n)[i]? = some o := fun i o hi ho => by rw [List.getElem?_take]; simp [hi, ho]
 exact wp_region_flowG n die (fillOf a (l.take n) 0) x0 R T G F P2 hm hB.1 hx0.symm h0 hG0 hR (fun s i w w' hs hi hne ha => hG s hs i hi hne ha w w') hst
  (fun i hi o ho x v => by have := fill_put (l.take n) 0 a x i o v (hget i o hi ho) hB.2; rwa [Nat.zero_add] at this)
  (fun i hi o ho => by have := hstep.get (hget i o hi ho); rwa [Nat.zero_add] at this) hend
end
end Go
