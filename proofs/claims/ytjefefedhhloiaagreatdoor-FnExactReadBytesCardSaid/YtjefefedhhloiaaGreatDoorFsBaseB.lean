/- Helper texts joined, one behind another (a claim has at most 60 files): what each proves, its own head says: . -/

